/-
  Texts of one proof, merged: TxtW.
-/
import Derived.Test.YtihhcnckoeaihaaDoorQE16
import Derived.Test.YtihhcnckoeaihaaDoorQE17
import Derived.Test.YtihhcnckoeaihaaDoorQE20
namespace Go.Proofs.YtihhcnckoeaihaaDoor
open Go.RowKit Go.PlainAid

set_option linter.unusedVariables false

theorem ownB_below {B : Nat} {v : Value} {n : Nat} {xs : List Value} {w w' : World} (h : w.ownsRow B 5 1 v n xs) (hb : Below w.heap.size w w') : w'.ownsRow B 5 1 v n xs := by
  refine ⟨h.1, ?_⟩
  rcases h.2 with hv | ⟨b, cap, cur, hv, hB, hh, r⟩
  · exact .inl hv
  · exact .inr ⟨b, cap, cur, hv, hB, by rw [hb.block b (lt_of_block hh)]; exact hh, r⟩

theorem IsBld.below {B b : Nat} {bs : List Value} {w w' : World} (h : IsBld B b bs w) (hb : Below w.heap.size w w') : IsBld B b bs w' := by
  have key : ∀ p, Lib.BuilderAt 48 5 B b p bs w → Lib.BuilderAt 48 5 B b p bs w' := fun p ⟨hB, v, hbk, hown, hne⟩ =>
    ⟨hB, v, (hb.block b (lt_of_block hbk)).trans hbk, ownB_below hown hb, hne⟩
  rcases h with h | h
  · exact .inl (key _ h)
  · exact .inr (key _ h)

/-- The text of a line, as the programs build it. -/
theorem line_text (e : Ev) {I F : ByteArray} (hI : (⟨(Lib.itoa e.t).toArray⟩ : ByteArray) = I) (hF : fmtB e.k e.x e.y e.z = F) : Lib.strCells (I ++ ⟨#[32]⟩ ++ F ++ ⟨#[10]⟩) = Lib.byteCells (lineE e) := by
  have e1 : (I ++ ⟨#[32]⟩ ++ F ++ ⟨#[10]⟩ : ByteArray).data.toList = lineE e := by
    rw [← hI, ← hF]
    unfold lineE
    simp only [ByteArray.data_append, Array.toList_append, List.append_assoc, List.cons_append, List.nil_append]
  show Lib.byteCells (I ++ ⟨#[32]⟩ ++ F ++ ⟨#[10]⟩ : ByteArray).data.toList = _
  rw [e1]

theorem line_size (e : Ev) (h : EvT e) {I F : ByteArray} (hI : (⟨(Lib.itoa e.t).toArray⟩ : ByteArray) = I) (hF : fmtB e.k e.x e.y e.z = F) : I.size ≤ 21 ∧ F.size ≤ 14 ∧ (I ++ ⟨#[32]⟩ ++ F ++ ⟨#[10]⟩ : ByteArray).size ≤ 40 := by
  have h1 : I.size ≤ 21 := by rw [← hI]; exact Lib.itoa_length_le e.t h.1 h.2
  have h2 : F.size ≤ 14 := by rw [← hF]; have := (fmt_len e.k e.x e.y e.z).1; simpa using this
  refine ⟨h1, h2, ?_⟩
  simp only [ByteArray.size_append]
  have e1 : (⟨#[32]⟩ : ByteArray).size = 1 := rfl
  have e2 : (⟨#[10]⟩ : ByteArray).size = 1 := rfl
  omega

theorem byteCells_append (a b : List UInt8) : Lib.byteCells a ++ Lib.byteCells b = Lib.byteCells (a ++ b) := by simp [Lib.byteCells]

theorem byteCells_length (a : List UInt8) : (Lib.byteCells a).length = a.length := by simp [Lib.byteCells]

set_option maxHeartbeats 8000000 in
set_option maxRecDepth 100000 in
theorem specTraceTxt_is (a : Option Addr) (n c : Nat) (L : List Ev) (hT : ∀ e ∈ L, EvT e) (hl : L.length = n) (h1 : n ≤ 3000000) (w : World) (hr : evK.Row w a L) :
    Calls Tryd.prog 9 #[.slice a n c] w (Gives (.string ⟨(textT L).toArray⟩) w) := by
  obtain ⟨i0, hi, hz0, hz1, hz2⟩ := info_parts infoB
  have HR := Lib.hid hr
  have HL := Lib.hid hl
  have HTT := Lib.hid hT
  clear hr hl hT
  go_enter Tryd.func9, Tryd.ntmps9
  go_wp2_with fail
  go_loopw [3, 4] (fun v i wr => ∃ k : Nat, k ≤ n ∧ i = .int .i64 k ∧ OwnB w.heap.size v (textT (L.take k)) wr ∧ Below w.heap.size w wr) (fun _ i _ => n - (intOf i).toNat)
  case atStart => exact ⟨0, Nat.zero_le _, rfl, World.ownsRow_made w #[] 0 (Nat.le_refl _) (by decide) rfl, (Below.refl _ _).alloc (Nat.le_refl _) _⟩
  case round =>
    obtain ⟨m, hm, rfl, hown, hbr⟩ := hrel
    have HO := Lib.hid hown
    have HBR := Lib.hid hbr
    clear hown hbr
    by_cases hlt : m < n
    case neg =>
      obtain rfl : m = n := by omega
      have HC : Hid (∀ wz, OwnB w.heap.size u3 (textT L) wz → (convert 22 9 u3).run Tryd.prog wz = .ok (.string ⟨(textT L).toArray⟩) wz) := fun wz h => h.conv
      have hO : OwnB w.heap.size u3 (textT L) wr := by
        have h := HO.out
        rw [List.take_of_length_le (by rw [HL.out]; exact Nat.le_refl _)] at h
        exact h
      have cv := HC.out _ hO
      clear HO hO HC
      go_wp2_with fail
      go_ret
      exact ⟨rfl, HBR.out⟩
    have hml : m < L.length := by rw [HL.out]; exact hlt
    obtain ⟨b, off, rfl, a0, a1, a2, a3, a4⟩ := ev_at (HR.out.below HBR.out) (i := m) hml
    have HSN := Lib.hid (take_snoc (L := L) (i := m) hml)
    have HET : Hid (EvT (L.getD m ev0)) := HTT.out _ (by rw [List.getD_eq_getElem?_getD, List.getElem?_eq_getElem hml]; exact List.getElem_mem hml)
    have hlen : (textT (L.take m)).length ≤ 120000000 := by
      have h := text_len (L := L.take m) (fun e he => HTT.out e (List.mem_of_mem_take he))
      rw [List.length_take] at h
      omega
    obtain ⟨e, he⟩ : ∃ e, L.getD m ev0 = e := ⟨_, rfl⟩
    rw [he] at a0 a1 a2 a3 a4 HSN HET
    clear he
    obtain ⟨I, hI⟩ : ∃ I, (⟨(Lib.itoa e.t).toArray⟩ : ByteArray) = I := ⟨_, rfl⟩
    obtain ⟨Fm, hF⟩ : ∃ Fm, fmtB e.k e.x e.y e.z = Fm := ⟨_, rfl⟩
    have HF := Lib.hid hF
    have HSZ := line_size e HET.out hI hF
    have HTX := Lib.hid (line_text e hI hF)
    have CI : Hid (∀ w, Calls Tryd.prog 19 #[.int .i64 e.t] w (Gives (.string I) w)) := fun w => by rw [← hI]; exact specFormat_any e.t HET.out.1 HET.out.2 w
    have q0 : ¬ 9223372036854775807 < I.size + 1 := by omega
    have q1 : ¬ 9223372036854775807 < I.size + 1 + Fm.size := by omega
    have q2 : ¬ 9223372036854775807 < I.size + 1 + Fm.size + 1 := by omega
    obtain ⟨aa, cc, hsh⟩ : ∃ aa cc, u3 = .slice aa (textT (L.take m)).length cc := by
      rcases HO.out.2 with ⟨hv, h0⟩ | ⟨g, cap, cur, hv, _⟩
      · exact ⟨none, 0, by rw [hv, h0]⟩
      · exact ⟨_, cap, hv⟩
    have HSH := Lib.hid hsh
    have za0 := fun q : Later wr => q.cell a0
    have za1 := fun q : Later wr => q.cell a1
    have za2 := fun q : Later wr => q.cell a2
    have za3 := fun q : Later wr => q.cell a3
    have za4 := fun q : Later wr => q.cell a4
    clear hI hF hsh
    go_wp2_with fail
    refine wp_region_later_tail 16 (by kernel_rfl) (by kernel_rfl) ?_
    simp only [List.take_succ_cons, List.take_zero, List.drop_succ_cons, List.drop_zero]
    repeat (go_big_quiet_step (first | (go_at_call 19; exact Gives.later _ (CI.out _)) | (go_at_call 20; exact Gives.later _ (specFmt_is e.k e.x e.y e.z Fm HF.out _))))
    refine wpQuiet_nil ?_
    rintro w6 ⟨zz, hzz⟩
    have hb6 : Below wr.heap.size wr w6 := hzz ▸ zz.ok
    have O6 := ownB_below HO.out hb6
    have HB6 : Hid (Below w.heap.size w w6) := HBR.out.trans (hb6.mono HBR.out.size)
    have hs6 := HB6.out.size
    clear hzz zz za0 za1 za2 za3 za4 a0 a1 a2 a3 a4 hb6 HO q0 q1 q2
    obtain ⟨S, hS⟩ : ∃ S, I ++ ⟨#[32]⟩ ++ Fm ++ ⟨#[10]⟩ = S := ⟨_, rfl⟩
    rw [hS] at HTX
    have hsz : S.size ≤ 40 := by rw [← hS]; exact HSZ.2.2
    (try simp only [hS])
    clear hS HSZ CI HF
    have hrow : ∀ j, Value.ownBlock u3 = some j → w.heap.size ≤ j := fun j hj => (World.ownsRow.lt O6 j hj).1
    go_wp2_with (at_builtin; refine Lib.wpList_append_own_string _ rfl _ _ 22 9 rfl w.heap.size 5 i0 Tryd.underlying22 Tryd.underlying9 hi hz0 hz1 hz2 _ _ _ rfl O6 S rfl ?c3 ?c4 ?c5 ?_)
    case c3 => unfold maxLen; omega
    case c4 => omega
    case c5 => exact hs6
    intro v' w8 hown8 hgrow _
    have R : Hid (OwnB w.heap.size v' (textT (L.take (m + 1))) w8) := by
      show w8.ownsRow _ _ _ _ _ _
      rw [HSN.out, textT_snoc, List.length_append, ← byteCells_append, ← HTX.out]
      have e2 : S.size = (lineE e).length := by rw [← Lib.strCells_length, HTX.out, byteCells_length]
      rw [e2] at hown8
      exact hown8
    have HB8 : Hid (Below w.heap.size w w8) := HB6.out.grown hgrow hs6 hrow
    clear hown8 hgrow O6 hrow HB6
    go_wp2_with fail
    go_roundw
    case rel => exact ⟨m + 1, by omega, by go_num, R.out, HB8.out⟩
    case measure => simp [intOf]; omega

set_option maxHeartbeats 8000000 in
set_option maxRecDepth 100000 in
theorem implTraceTxt_is (a : Option Addr) (n c : Nat) (L : List Ev) (hT : ∀ e ∈ L, EvT e) (hl : L.length = n) (h1 : n ≤ 3000000) (w : World) (hr : evK.Row w a L) (ht : Tab10 w) (hw : WordsVar w) :
    Calls Tryd.prog 7 #[.slice a n c] w (Gives (.string ⟨(textT L).toArray⟩) w) := by
  have HR := Lib.hid hr
  have HL := Lib.hid hl
  have HTT := Lib.hid hT
  have HTB := Lib.hid (Lib.tabBelow_of_tabIs ht)
  have HWV := Lib.hid hw
  have hb0 : IsBld w.heap.size w.heap.size [] (w.alloc (.cells #[.pointer none, .slice none 0 0] 48)) := Lib.fresh_isBuilder _ _ _
  clear hr hl hT ht hw
  go_enter Tryd.func7, Tryd.ntmps7
  go_wp2_with fail
  go_loopw [7] (fun i wr => ∃ k : Nat, k ≤ n ∧ i = .int .i64 k ∧ IsBld w.heap.size w.heap.size (Lib.byteCells (textT (L.take k))) wr ∧ Below w.heap.size w wr) (fun i _ => n - (intOf i).toNat)
  case atStart => exact ⟨0, Nat.zero_le _, rfl, hb0, (Below.refl _ _).alloc (Nat.le_refl _) _⟩
  case round =>
    obtain ⟨m, hm, rfl, hown, hbr⟩ := hrel
    have HO := Lib.hid hown
    have HBR := Lib.hid hbr
    clear hown hbr hb0
    by_cases hlt : m < n
    case neg =>
      obtain rfl : m = n := by omega
      have hO : IsBld w.heap.size w.heap.size (Lib.byteCells (textT L)) wr := by
        have h := HO.out
        rw [List.take_of_length_le (by rw [HL.out]; exact Nat.le_refl _)] at h
        exact h
      have HO2 := Lib.hid hO
      clear HO hO
      go_wp2_with fail
      refine (Tryd.Builder_String_any _ _ _ _ HO2.out HBR.out.size).mono ?_
      rintro e w2 ⟨rfl, hb2⟩
      have HB2 : Hid (Below w.heap.size w w2) := HBR.out.trans hb2
      clear hb2
      go_wp2_with fail
      go_ret
      exact ⟨rfl, HB2.out⟩
    have hml : m < L.length := by rw [HL.out]; exact hlt
    obtain ⟨b, off, rfl, a0, a1, a2, a3, a4⟩ := ev_at (HR.out.below HBR.out) (i := m) hml
    have HSN := Lib.hid (take_snoc (L := L) (i := m) hml)
    have HET : Hid (EvT (L.getD m ev0)) := HTT.out _ (by rw [List.getD_eq_getElem?_getD, List.getElem?_eq_getElem hml]; exact List.getElem_mem hml)
    have hlen : (textT (L.take m)).length ≤ 120000000 := by
      have h := text_len (L := L.take m) (fun e he => HTT.out e (List.mem_of_mem_take he))
      rw [List.length_take] at h
      omega
    obtain ⟨e, he⟩ : ∃ e, L.getD m ev0 = e := ⟨_, rfl⟩
    rw [he] at a0 a1 a2 a3 a4 HSN HET
    clear he
    obtain ⟨I, hI⟩ : ∃ I, (⟨(Lib.itoa e.t).toArray⟩ : ByteArray) = I := ⟨_, rfl⟩
    obtain ⟨Fm, hF⟩ : ∃ Fm, fmtB e.k e.x e.y e.z = Fm := ⟨_, rfl⟩
    have HF := Lib.hid hF
    have HSZ := line_size e HET.out hI hF
    have HTX := Lib.hid (line_text e hI hF)
    have HTR := Lib.hid (HTB.out.on HBR.out)
    have CI : Hid (∀ u, Below wr.heap.size wr u → Calls Tryd.prog 16 #[.int .i64 e.t] u (Gives (.string I) u)) := fun u hu => by rw [← hI]; exact implFormat_any e.t HET.out.1 HET.out.2 u (HTR.out.on (hu.mono HBR.out.size)).here
    have CF : Hid (∀ u, Below wr.heap.size wr u → Calls Tryd.prog 17 #[.agg #[.int .i64 e.k, .int .i64 e.x, .int .i64 e.y, .int .i64 e.z]] u (Gives (.string Fm) u)) := fun u hu => implFmt_is e.k e.x e.y e.z Fm HF.out u (HTR.out.on (hu.mono HBR.out.size)).here ((HWV.out.below HBR.out).below hu)
    have q0 : ¬ 9223372036854775807 < I.size + 1 := by omega
    have q1 : ¬ 9223372036854775807 < I.size + 1 + Fm.size := by omega
    have q2 : ¬ 9223372036854775807 < I.size + 1 + Fm.size + 1 := by omega
    have za0 := fun q : Later wr => q.cell a0
    have za1 := fun q : Later wr => q.cell a1
    have za2 := fun q : Later wr => q.cell a2
    have za3 := fun q : Later wr => q.cell a3
    have za4 := fun q : Later wr => q.cell a4
    clear hI hF
    go_wp2_with fail
    refine wp_region_later_tail 15 (by kernel_rfl) (by kernel_rfl) ?_
    simp only [List.take_succ_cons, List.take_zero, List.drop_succ_cons, List.drop_zero]
    repeat (go_big_quiet_step (first | (go_at_call 16; exact Gives.later _ (CI.out _ (Later.ok _))) | (go_at_call 17; exact Gives.later _ (CF.out _ (Later.ok _)))))
    refine wpQuiet_nil ?_
    rintro w6 ⟨zz, hzz⟩
    have hb6 : Below wr.heap.size wr w6 := hzz ▸ zz.ok
    have O6 := Lib.hid (HO.out.below hb6)
    have HB6 : Hid (Below w.heap.size w w6) := HBR.out.trans (hb6.mono HBR.out.size)
    have hs6 := HB6.out.size
    clear hzz zz za0 za1 za2 za3 za4 a0 a1 a2 a3 a4 hb6 HO q0 q1 q2
    obtain ⟨S, hS⟩ : ∃ S, I ++ ⟨#[32]⟩ ++ Fm ++ ⟨#[10]⟩ = S := ⟨_, rfl⟩
    rw [hS] at HTX
    have hsz : S.size ≤ 40 := by rw [← hS]; exact HSZ.2.2
    (try simp only [hS])
    clear hS HSZ CI CF HF
    go_wp2_with fail
    refine (write_is _ _ _ S _ O6.out (by rw [byteCells_length]; omega) hs6).mono ?_
    rintro e' w8 ⟨rfl, ho8, hb8⟩
    have R : Hid (IsBld w.heap.size w.heap.size (Lib.byteCells (textT (L.take (m + 1)))) w8) := by
      show IsBld _ _ _ _
      rw [HSN.out, textT_snoc, ← byteCells_append, ← HTX.out]
      exact ho8
    have HB8 : Hid (Below w.heap.size w w8) := HB6.out.trans hb8
    clear ho8 hb8 O6 HB6
    go_wp2_with fail
    go_roundw
    case rel => exact ⟨m + 1, by omega, by go_num, R.out, HB8.out⟩
    case measure => simp [intOf]; omega

end Go.Proofs.YtihhcnckoeaihaaDoor
