/-
  Texts of one proof, merged: ArrW5, ArrYS, ArrZ13.
-/
import Derived.Test.YtfpfgaifhmgpiaaQL1420
namespace Go.Proofs.Ytfpfgaifhmgpiaa
open Go.RowKit Go.PlainAid

set_option linter.unusedVariables false

/-- A call that answers a row of the call's own. -/
def GivesR (l : List Int) (w : World) (e : Ending) (w' : World) : Prop := ∃ a n c S, e = .returned (.slice a n c) ∧ intsK.own w' S [.slice a n c] l ∧ (∀ b ∈ S, w.heap.size ≤ b) ∧ Below w.heap.size w w'

def HasR (l : List Int) (base : Nat) (q : Value) (u : World) : Prop := ∃ a n c S, q = .slice a n c ∧ intsK.own u S [.slice a n c] l ∧ ∀ b ∈ S, base ≤ b

theorem HasR.below {l : List Int} {base : Nat} {q : Value} {u u' : World} (h : HasR l base q u) (hb : Below u.heap.size u u') : HasR l base q u' := by
  obtain ⟨a, n, c, S, e, ho, hs⟩ := h
  exact ⟨a, n, c, S, e, intsK.ownBelow ho hb, hs⟩

theorem encode_k {p : Int} {l : List Int} (hv : encI (symW p) = l) (hl : l.length = 11) (w : World) : Calls Try.prog 16 #[.int .i64 p] w (GivesR l w) := by
  refine (specEncodeLine_is p l hv w).mono ?_
  rintro e w' ⟨a, c, rfl, own, hb⟩
  obtain ⟨S, hS, h⟩ := ints_of_own (own.toJ rfl) (own.cap_le rfl) (by rw [hl]; unfold maxLen; decide)
  refine ⟨a, _, c, S, rfl, hS, fun b hb' => ?_, hb⟩
  rcases h with ⟨_, rfl⟩ | ⟨_, g, off, _, rfl, hg⟩
  · cases hb'
  · rw [List.mem_singleton] at hb'; omega

theorem storeC_at (H : IStoreCell) {ga gb gr gd bx br bc : Int} {cs : List Value} {x y : Arr} {l : List Int} {p : Bool} (hy : storedF ga gb gr gd x bx br bc (l, p) = y) (hf : ArrFit x) (hl : l.length = 11) {a : Option Addr} {n c : Nat} {w : World} (h : arrK.rd w cs x) (hk : intsK.rd w [.slice a n c] l) :
    Calls Try.prog 17 #[.agg #[.int .i64 ga, .int .i64 gb, .int .i64 gr, .int .i64 gd], .agg cs.toArray, .agg #[.int .i64 bx, .int .i64 br, .int .i64 bc], .agg #[.slice a n c, .bool p]] w (GivesS arrK y w) := by
  have := H ga gb gr gd bx br bc cs x a n c l p w h hf hk (by omega)
  rwa [hy] at this

theorem stored_ok {ga gb gr gd bx br bc : Int} {x : Arr} {c : List Int × Bool} (h : StoreOk ga gb gr gd x bx br bc c) : ArrOk ga gb gr gd (storedF ga gb gr gd x bx br bc c) := by
  unfold storedF
  rw [if_pos h]
  exact put_ok h.1 h.2.2 _

theorem pair_eq {α β : Type} {a c : α} {b d : β} (h : (a, b) = (c, d)) : a = c ∧ b = d := by cases h; exact ⟨rfl, rfl⟩

set_option maxHeartbeats 8000000 in
set_option maxRecDepth 100000 in
theorem fnStored_of (STORE : Hid IStoreCell) (LOAD : Hid ILoadCell) (a0 : Option Addr) (len cap : Nat) (zs : List Int) (w : World) (hr : IsRow .u8 w a0 len cap zs) :
    Calls Try.prog 3 #[.slice a0 len cap] w fun e w' => e = .returned (.bool true) ∧ Below w.heap.size w w' := by
  have hl := hr.len_le
  unfold maxLen at hl
  by_cases hbig : (1048576 : Int) < (len : Int)
  · go_enter Try.func3, Try.ntmps3
    go_wp2_with (go_at_call 11; refine (big_any _ _ _ _ (by omega)).mono ?_; rintro e w' ⟨rfl, rfl⟩)
    go_ret
    exact ⟨rfl, Below.refl _ _⟩
  have HR := Lib.hid hr
  clear hr
  go_enter Try.func3, Try.ntmps3
  go_wp2_with (go_at_call 11; refine (big_any _ _ _ _ (by omega)).mono ?_; rintro e w' ⟨rfl, rfl⟩)
  refine (drawArray_any HR.out).mono ?_
  rintro e w1 ⟨b, r, d, la, lh, cs, S, xx, rfl, hg, hlm, hok, hage, hhit, own1, hs1, hb1⟩
  have HG := Lib.hid hg
  have HLM := Lib.hid hlm
  obtain ⟨xa0, xn0, xc0, xa1, xn1, xc1, xa2, xn2, xc2, rfl, _, _, _⟩ := arr_rd (arrK.read own1)
  have HR1 := Lib.hid (HR.out.below (fun x h => HR.out.lt h) hb1)
  have HB1 := Lib.hid hb1
  have HOK := Lib.hid hok
  have HAGE := Lib.hid hage
  have HHIT := Lib.hid hhit
  clear hb1 hg hlm hok hage hhit
  go_wp2_with fail
  obtain ⟨w2, hw2⟩ : ∃ u, ((w1.alloc (.cells #[.int .i64 1, .int .i64 b, .int .i64 r, .int .i64 d] 25)).alloc (.cells #[.int .i64 la, .int .i64 lh] 27)).alloc (.cells #[.slice xa0 xn0 xc0, .slice xa1 xn1 xc1, .slice xa2 xn2 xc2] 31) = u := ⟨_, rfl⟩
  obtain ⟨gg2, ll2, qx2, hb2⟩ := alloc3 hw2
  have X2 : Hid (arrK.own w2 S [.slice xa0 xn0 xc0, .slice xa1 xn1 xc1, .slice xa2 xn2 xc2] xx) := arrK.ownBelow own1 hb2
  have BX : Hid (∀ g ∈ S, w.heap.size ≤ g) := hs1
  obtain ⟨PG, hPG⟩ : ∃ P, w1.heap.size = P := ⟨_, rfl⟩
  have hlt1 : ∀ g ∈ S, g < PG := fun g hg => by rw [← hPG]; exact arrK.lt own1 g hg
  have HXN : Hid (PG ∉ S ∧ PG + 1 ∉ S ∧ PG + 1 + 1 ∉ S) := ⟨fun h => by have := hlt1 _ h; omega, fun h => by have := hlt1 _ h; omega, fun h => by have := hlt1 _ h; omega⟩
  have HR2 := Lib.hid (HR1.out.below (fun x h => HR1.out.lt h) hb2)
  have HB2 : Hid (Below w.heap.size w w2) := HB1.out.trans (hb2.mono HB1.out.size)
  rw [hw2]
  clear hb2 hw2 HB1 HR1 HR own1 hs1 hlt1
  rw [hPG] at gg2 ll2 qx2
  simp only [hPG]
  clear hPG
  refine (drawPlaces_any HR2.out).mono ?_
  rintro e w3 ⟨Pg, Pc, lp, rfl, hlp, hpo, own3, hb3⟩
  obtain ⟨op, pp3⟩ : ∃ o, w3.heap[Pg]? = some o := by
    obtain ⟨g', e', _, _, _, hlt⟩ := own3.at (k := 0) (by rw [hlp]; decide)
    cases e'
    exact ⟨_, Array.getElem?_eq_getElem hlt⟩
  have hpc : ∀ i (hi : i < 12), ∀ u : World, u.heap[Pg]? = some op → u.cell? ⟨Pg, i, none⟩ = some (.int .i64 (lp.getD i 0)) := by
    intro i hi u hu
    obtain ⟨g', e', hc', _, _, _⟩ := own3.at (k := i) (by rw [hlp]; exact hi)
    cases e'
    rw [getD_get (by omega), ← hc']
    simp only [World.cell?, hu, pp3]
  have hpp : ∀ i (hi : i < 12), 0 ≤ lp.getD i 0 ∧ lp.getD i 0 ≤ 9999 := fun i hi => place_in hlp hpo i hi
  obtain ⟨p0, hp0⟩ : ∃ p, lp.getD 0 0 = p := ⟨_, rfl⟩
  obtain ⟨p1, hp1⟩ : ∃ p, lp.getD 1 0 = p := ⟨_, rfl⟩
  obtain ⟨p2, hp2⟩ : ∃ p, lp.getD 2 0 = p := ⟨_, rfl⟩
  obtain ⟨p3, hp3⟩ : ∃ p, lp.getD 3 0 = p := ⟨_, rfl⟩
  have HPC0 := Lib.hid (hp0 ▸ hpc 0 (by decide))
  have HPC1 := Lib.hid (hp1 ▸ hpc 1 (by decide))
  have HPC2 := Lib.hid (hp2 ▸ hpc 2 (by decide))
  have HPC3 := Lib.hid (hp3 ▸ hpc 3 (by decide))
  have HP0 := Lib.hid (hp0 ▸ hpp 0 (by decide))
  have HP1 := Lib.hid (hp1 ▸ hpp 1 (by decide))
  have HP2 := Lib.hid (hp2 ▸ hpp 2 (by decide))
  have HP3 := Lib.hid (hp3 ▸ hpp 3 (by decide))
  clear hlp hpo hpc hpp hp0 hp1 hp2 hp3 own3
  have gg3 := keep_block hb3 gg2 (lt_of_block gg2)
  have ll3 := keep_block hb3 ll2 (lt_of_block ll2)
  have qX3 := keep_block hb3 qx2 (lt_of_block qx2)
  have X3 : Hid (arrK.own w3 S [.slice xa0 xn0 xc0, .slice xa1 xn1 xc1, .slice xa2 xn2 xc2] xx) := arrK.ownBelow X2.out hb3
  have HB3 : Hid (Below w.heap.size w w3) := HB2.out.trans (hb3.mono HB2.out.size)
  clear hb3 gg2 ll2 qx2 X2 HB2 HR2
  clear BX HXN HAGE HHIT
  obtain ⟨m, hm⟩ : ∃ m, lineN 1 b r d = m := ⟨_, rfl⟩
  have hm1 := line_posA HG.out
  rw [hm] at hm1
  obtain ⟨q, eq, hq0, hq1⟩ := tmodI HP0.out.1 hm1
  obtain ⟨q', eq', hq2, hq3⟩ := tmodI HP1.out.1 hm1
  have hm0 : ¬ (m = 0) := by omega
  obtain ⟨ax, ay, az, had, hia, hea, hat⟩ := atF_place (b := b) (r := r) (d := d) (q := q) ⟨hq0, by rw [hm]; exact hq1⟩
  obtain ⟨ox, oy, oz, hod, hio, heo, hot⟩ := atF_place (b := b) (r := r) (d := d) (q := q') ⟨hq2, by rw [hm]; exact hq3⟩
  have hwd : Wd p2 := ⟨HP2.out.1, by have := HP2.out.2; omega⟩
  obtain ⟨l, hl⟩ : ∃ l, encI (symW p2) = l := ⟨_, rfl⟩
  have hcw : l = cwI (symW p2) := by rw [← hl]; exact cd_enc (symW_len hwd) (symW_els hwd)
  have hl11 : l.length = 11 := by rw [hcw]; exact cd_length (symW_len hwd)
  have hls : SymOk l 11 := by rw [hcw]; exact cd_sym (symW_len hwd) (symW_els hwd)
  obtain ⟨vI, ev, hv0, hv1⟩ := tmodI (m := 2) HP3.out.1 (by decide)
  obtain ⟨pz, hpz⟩ : ∃ z, (vI == 1) = z := ⟨_, rfl⟩
  have hst : StoreOk 1 b r d xx ax ay az (l, pz) := ⟨HOK.out, had, hls⟩
  obtain ⟨h1, h2, h3⟩ := store_math hst hod
  have hok1 := stored_ok hst
  obtain ⟨x1, hx1⟩ : ∃ x, storedF 1 b r d xx ax ay az (l, pz) = x := ⟨_, rfl⟩
  rw [hx1] at h1 h2 h3 hok1
  obtain ⟨⟨⟨s1, p1'⟩, o1⟩, hs1⟩ : ∃ z, loadF 1 b r d x1 ox oy oz = z := ⟨_, rfl⟩
  obtain ⟨⟨⟨s2, p2'⟩, o2⟩, hs2⟩ : ∃ z, loadF 1 b r d xx ox oy oz = z := ⟨_, rfl⟩
  rw [hs1] at h3
  obtain rfl : o1 = true := h3
  have hne : ¬ (ax = ox ∧ ay = oy ∧ az = oz) → s1 = s2 ∧ p1' = p2' := by
    intro hn
    have hqq : idxF 1 b r d ax ay az ≠ idxF 1 b r d ox oy oz := by
      rw [hia, hio]
      intro e
      subst e
      rw [← heo] at hea
      obtain ⟨e1, e2⟩ := pair_eq hea
      obtain ⟨e2, e3⟩ := pair_eq e2
      exact hn ⟨e1, e2, e3⟩
    have h4 := h2 hqq
    rw [hs1, hs2] at h4
    exact pair_eq (pair_eq h4).1
  have SL : Hid (∀ w, Calls Try.prog 14 #[.agg #[.int .i64 1, .int .i64 b, .int .i64 r, .int .i64 d]] w (Gives (.int .i64 m) w)) := fun w => specLine_is 1 b r d m hm w
  have SA : Hid (∀ w, Calls Try.prog 15 #[.agg #[.int .i64 1, .int .i64 b, .int .i64 r, .int .i64 d], .int .i64 q] w (Gives (.tuple #[.agg #[.int .i64 ax, .int .i64 ay, .int .i64 az], .bool true]) w)) := fun w => by have h := specAt_is 1 b r d q w; rwa [hat] at h
  have SO : Hid (∀ w, Calls Try.prog 15 #[.agg #[.int .i64 1, .int .i64 b, .int .i64 r, .int .i64 d], .int .i64 q'] w (Gives (.tuple #[.agg #[.int .i64 ox, .int .i64 oy, .int .i64 oz], .bool true]) w)) := fun w => by have h := specAt_is 1 b r d q' w; rwa [hot] at h
  have HFIT := Lib.hid (arr_fit HOK.out)
  have HFIT1 := Lib.hid (arr_fit hok1)
  have HX1 := Lib.hid hx1
  have HS1 := Lib.hid hs1
  have HS2 := Lib.hid hs2
  have HH1 := Lib.hid h1
  have HLE := Lib.hid hl
  have HL11 := Lib.hid hl11
  have HNE := Lib.hid hne
  clear hm hm1 hq0 hq1 hq2 hq3 had hia hea hat hod hio heo hot hwd hcw hl hl11 hls hv0 hv1 hst h1 h2 hok1 hx1 hs1 hs2 hne
  obtain ⟨kgg0, kgg1, kgg2, kgg3⟩ := cells4 gg3
  go_wp2_with fail
  refine (SL.out _).mono ?_
  rintro e w4 ⟨rfl, hb4⟩
  clear kgg0 kgg1 kgg2 kgg3
  have gg4 := keep_block hb4 gg3 (lt_of_block gg3)
  have ll4 := keep_block hb4 ll3 (lt_of_block ll3)
  have pp4 := keep_block hb4 pp3 (lt_of_block pp3)
  have qX4 := keep_block hb4 qX3 (lt_of_block qX3)
  have X4 : Hid (arrK.own w4 S [.slice xa0 xn0 xc0, .slice xa1 xn1 xc1, .slice xa2 xn2 xc2] xx) := arrK.ownBelow X3.out hb4
  have HB4 : Hid (Below w.heap.size w w4) := HB3.out.trans (hb4.mono HB3.out.size)
  clear gg3 ll3 pp3 qX3 X3 HB3
  clear hb4
  have ce0 := HPC0.out w4 pp4
  go_wp2_with fail
  refine wp_region_made (A := ?AM1) (cells := ?cellsM1) 10 (by kernel_rfl) (by kernel_rfl) rfl rfl ?walkM1 ?hxM1 (by decide) ?sizeM1 ?allocM1 (zero := #[.int .i64 0, .int .i64 0, .int .i64 0]) ?infoM1 ?hoM1 ?honeM1 ?restM1
  case walkM1 =>
    intro F hF hN
    obtain ⟨kgg0, kgg1, kgg2, kgg3⟩ := cells4 gg4
    have z0 := fun q : LaterF w4 F => q.cell kgg0
    have z1 := fun q : LaterF w4 F => q.cell kgg1
    have z2 := fun q : LaterF w4 F => q.cell kgg2
    have z3 := fun q : LaterF w4 F => q.cell kgg3
    have z4 := fun q : LaterF w4 F => q.cell ce0
    simp only [List.take_succ_cons, List.take_zero]
    repeat (go_big_quiet_step (first | (go_at_call 15; exact Gives.laterF hF _ (SA.out _))))
    refine wpQuiet_nil ?_
    exact rfl
  case hxM1 => rfl
  case sizeM1 => simp
  case hoM1 => rfl
  case honeM1 => simp [Value.oneCell']
  case infoM1 => kernel_rfl
  case allocM1 =>
    intro a w K hK
    go_simp
    exact hK
  case restM1 =>
    intro Pat w5 hb5 hg5 at5
    simp only [List.drop_succ_cons, List.drop_zero, Act.put, List.setIfInBounds_toArray, List.set_cons_zero, List.set_cons_succ]
    have gg5 := keep_block hb5 gg4 (lt_of_block gg4)
    have ll5 := keep_block hb5 ll4 (lt_of_block ll4)
    have pp5 := keep_block hb5 pp4 (lt_of_block pp4)
    have qX5 := keep_block hb5 qX4 (lt_of_block qX4)
    have X5 : Hid (arrK.own w5 S [.slice xa0 xn0 xc0, .slice xa1 xn1 xc1, .slice xa2 xn2 xc2] xx) := arrK.ownBelow X4.out hb5
    have HB5 : Hid (Below w.heap.size w w5) := HB4.out.trans (hb5.mono HB4.out.size)
    have NXat : Hid (Pat ∉ S) := fun h => by have h1 := arrK.lt X4.out _ h; omega
    clear gg4 ll4 pp4 qX4 X4 HB4
    clear hb5 hg5 ce0
    have ce1 := HPC1.out w5 pp5
    go_wp2_with fail
    refine wp_region_made (A := ?AM2) (cells := ?cellsM2) 10 (by kernel_rfl) (by kernel_rfl) rfl rfl ?walkM2 ?hxM2 (by decide) ?sizeM2 ?allocM2 (zero := #[.int .i64 0, .int .i64 0, .int .i64 0]) ?infoM2 ?hoM2 ?honeM2 ?restM2
    case walkM2 =>
      intro F hF hN
      obtain ⟨kgg0, kgg1, kgg2, kgg3⟩ := cells4 gg5
      have z0 := fun q : LaterF w5 F => q.cell kgg0
      have z1 := fun q : LaterF w5 F => q.cell kgg1
      have z2 := fun q : LaterF w5 F => q.cell kgg2
      have z3 := fun q : LaterF w5 F => q.cell kgg3
      have z4 := fun q : LaterF w5 F => q.cell ce1
      simp only [List.take_succ_cons, List.take_zero]
      repeat (go_big_quiet_step (first | (go_at_call 15; exact Gives.laterF hF _ (SO.out _))))
      refine wpQuiet_nil ?_
      exact rfl
    case hxM2 => rfl
    case sizeM2 => simp
    case hoM2 => rfl
    case honeM2 => simp [Value.oneCell']
    case infoM2 => kernel_rfl
    case allocM2 =>
      intro a w K hK
      go_simp
      exact hK
    case restM2 =>
      intro Pot w6 hb6 hg6 ot6
      simp only [List.drop_succ_cons, List.drop_zero, Act.put, List.setIfInBounds_toArray, List.set_cons_zero, List.set_cons_succ]
      have gg6 := keep_block hb6 gg5 (lt_of_block gg5)
      have ll6 := keep_block hb6 ll5 (lt_of_block ll5)
      have pp6 := keep_block hb6 pp5 (lt_of_block pp5)
      have qX6 := keep_block hb6 qX5 (lt_of_block qX5)
      have at6 := keep_block hb6 at5 (lt_of_block at5)
      have X6 : Hid (arrK.own w6 S [.slice xa0 xn0 xc0, .slice xa1 xn1 xc1, .slice xa2 xn2 xc2] xx) := arrK.ownBelow X5.out hb6
      have HB6 : Hid (Below w.heap.size w w6) := HB5.out.trans (hb6.mono HB5.out.size)
      have NXot : Hid (Pot ∉ S) := fun h => by have h1 := arrK.lt X5.out _ h; omega
      clear gg5 ll5 pp5 qX5 at5 X5 HB5
      clear hb6 hg6 ce1
      go_wp2_with fail
      refine wp_region_flowV (fun k => match k with | 0 => some (.slice (some ⟨Pg, 0, none⟩) 12 Pc) | 1 => some (.pointer (some ⟨Pg, 2, none⟩)) | 2 => some (.int .i64 p2) | 4 => some (.slice (some ⟨Pg, 0, none⟩) 12 Pc) | 5 => some (.pointer (some ⟨Pg, 3, none⟩)) | 6 => some (.int .i64 p3) | 7 => some (.int .i64 vI) | 8 => some (.bool pz) | _ => none) (fun listed x u => FactW 3 9 (HasR l w6.heap.size) listed x u ∧ FactW 9 11 (HasK cellK (l, pz) w6.heap.size) listed x u ∧ MadeK cellK 42 #[.slice none 0 0, .bool false] 10 11 w6.heap.size (l, pz) listed x u) (fun _ => undef) (by kernel_rfl) (by kernel_rfl) ?hxR3 ?hSR3 ?hsR3 ?heR3
      case hxR3 => simp only [putsX, Act.put, List.setIfInBounds_toArray, List.set_cons_zero, List.set_cons_succ]
      case hSR3 => exact ⟨FactW.zero _ _ _ _ _ _, FactW.zero _ _ _ _ _ _, MadeK.zero _ _ _ _ _ _ _ _ _ _⟩
      case hsR3 =>
        simp only [flowSteps]
        refine ⟨?sR3_0, ?sR3_1, ?sR3_2, ?sR3_3, ?sR3_4, ?sR3_5, ?sR3_6, ?sR3_7, ?sR3_8, ?sR3_9, ?sR3_10, ?sR3_11, trivial⟩
        case sR3_0 =>
          intro listed bb u hsz hn hwt hinv
          obtain ⟨x, rfl, hC, hU, hR, hO, hM⟩ := hinv
          simp only [putsX, Act.put, List.setIfInBounds_toArray, List.set_cons_zero, List.set_cons_succ]
          go_wp2_with fail
          refine stepQ_normal ⟨trivial, upd x 0 (.slice (some ⟨Pg, 0, none⟩) 12 Pc), ?_, hC, hU.step (fun _ h => Option.some.inj h), hR.keep (by decide) (by decide) _ id, hO.keep (by decide) (by decide) _ id, hM.keep (by decide) (by decide) _ (Below.refl _ _)⟩
          simp only [upd]
          rfl
        case sR3_1 =>
          intro listed bb u hsz hn hwt hinv
          obtain ⟨x, rfl, hC, hU, hR, hO, hM⟩ := hinv
          have f0 := Lib.hid (hU 0 _ rfl (hwt 0 (by kernel_rfl)))
          simp only [putsX, Act.put, List.setIfInBounds_toArray, List.set_cons_zero, List.set_cons_succ]
          rw [f0.out]
          go_wp2_with fail
          refine stepQ_normal ⟨trivial, upd x 1 (.pointer (some ⟨Pg, 2, none⟩)), ?_, hC, hU.step (fun _ h => Option.some.inj h), hR.keep (by decide) (by decide) _ id, hO.keep (by decide) (by decide) _ id, hM.keep (by decide) (by decide) _ (Below.refl _ _)⟩
          simp only [upd]
          simp only [f0.out]
          (try rfl)
        case sR3_2 =>
          intro listed bb u hsz hn hwt hinv
          obtain ⟨x, rfl, hC, hU, hR, hO, hM⟩ := hinv
          have f1 := Lib.hid (hU 1 _ rfl (hwt 1 (by kernel_rfl)))
          simp only [putsX, Act.put, List.setIfInBounds_toArray, List.set_cons_zero, List.set_cons_succ]
          rw [f1.out]
          have d0 := HPC2.out u (keep_block hC pp6 (lt_of_block pp6))
          go_wp2_with fail
          refine stepQ_normal ⟨trivial, upd x 2 (.int .i64 p2), ?_, hC, hU.step (fun _ h => Option.some.inj h), hR.keep (by decide) (by decide) _ id, hO.keep (by decide) (by decide) _ id, hM.keep (by decide) (by decide) _ (Below.refl _ _)⟩
          simp only [upd]
          simp only [f1.out]
          (try rfl)
        case sR3_3 =>
          intro listed bb u hsz hn hwt hinv
          obtain ⟨x, rfl, hC, hU, hR, hO, hM⟩ := hinv
          have f2 := Lib.hid (hU 2 _ rfl (hwt 2 (by kernel_rfl)))
          simp only [putsX, Act.put, List.setIfInBounds_toArray, List.set_cons_zero, List.set_cons_succ]
          have hcall : Calls Try.prog 16 #[x 2] u (GivesR l u) := by rw [f2.out]; exact (encode_k HLE.out HL11.out u)
          go_wp2_with fail
          refine hcall.mono ?_
          rintro e' u' ⟨a, nn, c, SS, rfl, own, hss, hb⟩
          go_wp2_with fail
          refine stepQ_normal ⟨trivial, upd x 3 (.slice a nn c), ?_, hC.trans (hb.mono hC.size), hU.step (fun _ h => by cases h), FactW.new ⟨a, nn, c, SS, rfl, own, fun b h => Nat.le_trans hC.size (hss b h)⟩, hO.keep (by decide) (by decide) _ (fun h => HasK.below h (hb)), hM.keep (by decide) (by decide) _ (hb)⟩
          simp only [upd]
          rfl
        case sR3_4 =>
          intro listed bb u hsz hn hwt hinv
          obtain ⟨x, rfl, hC, hU, hR, hO, hM⟩ := hinv
          simp only [putsX, Act.put, List.setIfInBounds_toArray, List.set_cons_zero, List.set_cons_succ]
          go_wp2_with fail
          refine stepQ_normal ⟨trivial, upd x 4 (.slice (some ⟨Pg, 0, none⟩) 12 Pc), ?_, hC, hU.step (fun _ h => Option.some.inj h), hR.keep (by decide) (by decide) _ id, hO.keep (by decide) (by decide) _ id, hM.keep (by decide) (by decide) _ (Below.refl _ _)⟩
          simp only [upd]
          rfl
        case sR3_5 =>
          intro listed bb u hsz hn hwt hinv
          obtain ⟨x, rfl, hC, hU, hR, hO, hM⟩ := hinv
          have f4 := Lib.hid (hU 4 _ rfl (hwt 4 (by kernel_rfl)))
          simp only [putsX, Act.put, List.setIfInBounds_toArray, List.set_cons_zero, List.set_cons_succ]
          rw [f4.out]
          go_wp2_with fail
          refine stepQ_normal ⟨trivial, upd x 5 (.pointer (some ⟨Pg, 3, none⟩)), ?_, hC, hU.step (fun _ h => Option.some.inj h), hR.keep (by decide) (by decide) _ id, hO.keep (by decide) (by decide) _ id, hM.keep (by decide) (by decide) _ (Below.refl _ _)⟩
          simp only [upd]
          simp only [f4.out]
          (try rfl)
        case sR3_6 =>
          intro listed bb u hsz hn hwt hinv
          obtain ⟨x, rfl, hC, hU, hR, hO, hM⟩ := hinv
          have f5 := Lib.hid (hU 5 _ rfl (hwt 5 (by kernel_rfl)))
          simp only [putsX, Act.put, List.setIfInBounds_toArray, List.set_cons_zero, List.set_cons_succ]
          rw [f5.out]
          have d0 := HPC3.out u (keep_block hC pp6 (lt_of_block pp6))
          go_wp2_with fail
          refine stepQ_normal ⟨trivial, upd x 6 (.int .i64 p3), ?_, hC, hU.step (fun _ h => Option.some.inj h), hR.keep (by decide) (by decide) _ id, hO.keep (by decide) (by decide) _ id, hM.keep (by decide) (by decide) _ (Below.refl _ _)⟩
          simp only [upd]
          simp only [f5.out]
          (try rfl)
        case sR3_7 =>
          intro listed bb u hsz hn hwt hinv
          obtain ⟨x, rfl, hC, hU, hR, hO, hM⟩ := hinv
          have f6 := Lib.hid (hU 6 _ rfl (hwt 6 (by kernel_rfl)))
          simp only [putsX, Act.put, List.setIfInBounds_toArray, List.set_cons_zero, List.set_cons_succ]
          rw [f6.out]
          go_wp2_with fail
          refine stepQ_normal ⟨trivial, upd x 7 (.int .i64 vI), ?_, hC, hU.step (fun _ h => Option.some.inj h), hR.keep (by decide) (by decide) _ id, hO.keep (by decide) (by decide) _ id, hM.keep (by decide) (by decide) _ (Below.refl _ _)⟩
          simp only [upd]
          simp only [f6.out]
          (try rfl)
        case sR3_8 =>
          intro listed bb u hsz hn hwt hinv
          obtain ⟨x, rfl, hC, hU, hR, hO, hM⟩ := hinv
          have f7 := Lib.hid (hU 7 _ rfl (hwt 7 (by kernel_rfl)))
          simp only [putsX, Act.put, List.setIfInBounds_toArray, List.set_cons_zero, List.set_cons_succ]
          rw [f7.out]
          go_wp2_with fail
          refine stepQ_normal ⟨trivial, upd x 8 (.bool pz), ?_, hC, hU.step (fun _ h => Option.some.inj h), hR.keep (by decide) (by decide) _ id, hO.keep (by decide) (by decide) _ id, hM.keep (by decide) (by decide) _ (Below.refl _ _)⟩
          simp only [upd]
          simp only [f7.out]
          (try rfl)
        case sR3_9 =>
          intro listed bb u hsz hn hwt hinv
          obtain ⟨x, rfl, hC, hU, hR, hO, hM⟩ := hinv
          have f8 := Lib.hid (hU 8 _ rfl (hwt 8 (by kernel_rfl)))
          simp only [putsX, Act.put, List.setIfInBounds_toArray, List.set_cons_zero, List.set_cons_succ]
          obtain ⟨a, nn, c, SS, fp, own, hss⟩ := hR (hwt 3 (by kernel_rfl)) hn
          have FP := Lib.hid fp
          rw [FP.out]
          rw [f8.out]
          clear fp
          go_wp2_with fail
          refine stepQ_normal ⟨trivial, upd x 9 (.agg #[.slice a nn c, .bool pz]), ?_, hC, hU.step (fun _ h => by cases h), FactW.call (by rw [hsz]; decide), FactW.new ⟨[.slice a nn c, .bool pz], SS, rfl, cell_of pz own, hss⟩, hM.keep (by decide) (by decide) _ (Below.refl _ _)⟩
          simp only [upd]
          simp only [FP.out, f8.out]
          (try rfl)
        case sR3_10 =>
          intro listed bb u hsz hn hwt hinv
          obtain ⟨x, rfl, hC, hU, hR, hO, hM⟩ := hinv
          simp only [putsX, Act.put, List.setIfInBounds_toArray, List.set_cons_zero, List.set_cons_succ]
          go_wp2_with fail
          refine stepQ_normal ⟨trivial, upd x 10 (.pointer (some ⟨u.heap.size, 0, none⟩)), ?_, hC.alloc hC.size _, hU.step (fun _ h => by cases h), hR.keep (by decide) (by decide) _ (fun h => HasR.below h (below_allocK _ _)), hO.keep (by decide) (by decide) _ (fun h => HasK.below h (below_allocK _ _)), hM.new (by decide) hn hC.size⟩
          simp only [upd]
          rfl
        case sR3_11 =>
          intro listed bb u hsz hn hwt hinv
          obtain ⟨x, rfl, hC, hU, hR, hO, hM⟩ := hinv
          simp only [putsX, Act.put, List.setIfInBounds_toArray, List.set_cons_zero, List.set_cons_succ]
          obtain ⟨g, fg, hg, hh⟩ := hM.there (hwt 10 (by kernel_rfl)) hn
          obtain ⟨cs, SS, fp, own, hss⟩ := hO (hwt 9 (by kernel_rfl)) hn
          obtain ⟨a0, n0, c0, rfl, _⟩ := cell_rd (cellK.read own)
          have FG := Lib.hid fg
          have FP := Lib.hid fp
          rw [FG.out, FP.out]
          obtain ⟨y0, y1⟩ := cells2 hh
          have t0 := thawed hh 0
          have t1 := thawed hh 1
          have hng : g ∉ SS := cellTy.notin own hh (by decide)
          have own0 := own
          have hfin := set_cells (set_cells (hh) 0 (.slice a0 n0 c0)) 1 (.bool pz)
          have OW := Lib.hid (Kn.ownSet cellK (Kn.ownSet cellK own0 (p := ⟨g, 0, none⟩) (fun b h e => hng ((show b = g from e) ▸ h)) (.slice a0 n0 c0)) (p := ⟨g, 1, none⟩) (fun b h e => hng ((show b = g from e) ▸ h)) (.bool pz))
          have HSS := Lib.hid hss
          have HNG := Lib.hid hng
          clear hh fg fp own own0 hss hng
          go_wp2_with fail
          refine stepQ_normal ⟨trivial, upd x 11 undef, ?_, ((hC).setCell (by exact hg) _).setCell (by exact hg) _, hU.step (fun _ h => by cases h), FactW.gone (hwt 9 (by kernel_rfl)), FactW.call (by rw [hsz]; decide), MadeK.fill (by decide) (hwt 10 (by kernel_rfl)) (by rw [hsz]; decide) FG.out hg hfin OW.out HNG.out HSS.out⟩
          simp only [upd]
          simp only [FG.out, FP.out]
          (try rfl)
      case heR3 =>
        intro listed q w7 hall hC hU hS
        obtain ⟨hR, hO, hM⟩ := hS
        obtain ⟨PC, cs, SC, fg, hgP, hh, own, hng, hss⟩ := hM.full (hall 10 (by decide)) (hall 11 (by decide))
        obtain ⟨Ca0, Cn0, Cc0, rfl, _⟩ := cell_rd (cellK.read own)
        simp only [putsX, Act.put, List.setIfInBounds_toArray, List.set_cons_zero, List.set_cons_succ]
        rw [fg]
        clear hall hU fg hR hO hM
        generalize q 0 = _q0, q 1 = _q1, q 2 = _q2, q 3 = _q3, q 4 = _q4, q 5 = _q5, q 6 = _q6, q 7 = _q7, q 8 = _q8, q 9 = _q9
        have gg7 := keep_block hC gg6 (lt_of_block gg6)
        have ll7 := keep_block hC ll6 (lt_of_block ll6)
        have pp7 := keep_block hC pp6 (lt_of_block pp6)
        have qX7 := keep_block hC qX6 (lt_of_block qX6)
        have at7 := keep_block hC at6 (lt_of_block at6)
        have ot7 := keep_block hC ot6 (lt_of_block ot6)
        have X7 : Hid (arrK.own w7 S [.slice xa0 xn0 xc0, .slice xa1 xn1 xc1, .slice xa2 xn2 xc2] xx) := arrK.ownBelow X6.out hC
        have HB7 : Hid (Below w.heap.size w w7) := HB6.out.trans (hC.mono HB6.out.size)
        have BC : Hid (∀ b ∈ SC, w6.heap.size ≤ b) := hss
        have C7 : Hid (cellK.own w7 SC [.slice Ca0 Cn0 Cc0, .bool pz] (l, pz)) := own
        have qC7 := hh
        have NXqC : Hid (PC ∉ S) := fun h => by have h1 := arrK.lt X6.out _ h; omega
        have DXC : Hid (∀ b ∈ S, b ∉ SC) := fun b h1 h2 => by have h3 := arrK.lt X6.out b h1; have h4 := BC.out b h2; omega
        have NCgg : Hid (PG ∉ SC) := fun h => by have h1 := lt_of_block gg6; have h2 := BC.out _ h; omega
        have NCll : Hid ((PG + 1) ∉ SC) := fun h => by have h1 := lt_of_block ll6; have h2 := BC.out _ h; omega
        have NCpp : Hid (Pg ∉ SC) := fun h => by have h1 := lt_of_block pp6; have h2 := BC.out _ h; omega
        have NCqX : Hid ((PG + 1 + 1) ∉ SC) := fun h => by have h1 := lt_of_block qX6; have h2 := BC.out _ h; omega
        have NCat : Hid (Pat ∉ SC) := fun h => by have h1 := lt_of_block at6; have h2 := BC.out _ h; omega
        have NCot : Hid (Pot ∉ SC) := fun h => by have h1 := lt_of_block ot6; have h2 := BC.out _ h; omega
        have NCqC : Hid (PC ∉ SC) := hng
        clear own hss hh hC hng hgP
        clear gg6 ll6 pp6 qX6 at6 ot6 X6 HB6
        obtain ⟨kgg0, kgg1, kgg2, kgg3⟩ := cells4 gg7
        obtain ⟨kqX0, kqX1, kqX2⟩ := cells3 qX7
        obtain ⟨kat0, kat1, kat2⟩ := cells3 at7
        obtain ⟨kqC0, kqC1⟩ := cells2 qC7
        go_wp2_with fail
        refine (storeC_at STORE.out HX1.out HFIT.out HL11.out (arrK.read X7.out) (cell_ints C7.out)).mono ?_
        rintro e w8 ⟨cs, SY, rfl, own8, hs8, hb8⟩
        have gg8 := keep_block hb8 gg7 (lt_of_block gg7)
        have ll8 := keep_block hb8 ll7 (lt_of_block ll7)
        have pp8 := keep_block hb8 pp7 (lt_of_block pp7)
        have qX8 := keep_block hb8 qX7 (lt_of_block qX7)
        have at8 := keep_block hb8 at7 (lt_of_block at7)
        have ot8 := keep_block hb8 ot7 (lt_of_block ot7)
        have qC8 := keep_block hb8 qC7 (lt_of_block qC7)
        have X8 : Hid (arrK.own w8 S [.slice xa0 xn0 xc0, .slice xa1 xn1 xc1, .slice xa2 xn2 xc2] xx) := arrK.ownBelow X7.out hb8
        have C8 : Hid (cellK.own w8 SC [.slice Ca0 Cn0 Cc0, .bool pz] (l, pz)) := cellK.ownBelow C7.out hb8
        have HB8 : Hid (Below w.heap.size w w8) := HB7.out.trans (hb8.mono HB7.out.size)
        have BY : Hid (∀ b ∈ SY, w7.heap.size ≤ b) := hs8
        clear hs8
        obtain ⟨Ya0, Yn0, Yc0, Ya1, Yn1, Yc1, Ya2, Yn2, Yc2, rfl, _, _, _⟩ := arr_rd (arrK.read own8)
        have Y8 : Hid (arrK.own w8 SY [.slice Ya0 Yn0 Yc0, .slice Ya1 Yn1 Yc1, .slice Ya2 Yn2 Yc2] x1) := own8
        have DXY : Hid (∀ b ∈ S, b ∉ SY) := fun b h1 h2 => by have h3 := arrK.lt X7.out b h1; have h4 := BY.out b h2; omega
        have DCY : Hid (∀ b ∈ SC, b ∉ SY) := fun b h1 h2 => by have h3 := cellK.lt C7.out b h1; have h4 := BY.out b h2; omega
        have NYgg : Hid (PG ∉ SY) := fun h => by have h1 := lt_of_block gg7; have h2 := BY.out _ h; omega
        have NYll : Hid ((PG + 1) ∉ SY) := fun h => by have h1 := lt_of_block ll7; have h2 := BY.out _ h; omega
        have NYpp : Hid (Pg ∉ SY) := fun h => by have h1 := lt_of_block pp7; have h2 := BY.out _ h; omega
        have NYqX : Hid ((PG + 1 + 1) ∉ SY) := fun h => by have h1 := lt_of_block qX7; have h2 := BY.out _ h; omega
        have NYat : Hid (Pat ∉ SY) := fun h => by have h1 := lt_of_block at7; have h2 := BY.out _ h; omega
        have NYot : Hid (Pot ∉ SY) := fun h => by have h1 := lt_of_block ot7; have h2 := BY.out _ h; omega
        have NYqC : Hid (PC ∉ SY) := fun h => by have h1 := lt_of_block qC7; have h2 := BY.out _ h; omega
        clear own8 hb8
        clear gg7 ll7 pp7 qX7 at7 ot7 qC7 X7 C7 HB7
        obtain ⟨PY, hPY⟩ : ∃ P, w8.heap.size = P := ⟨_, rfl⟩
        have NXqY : Hid (PY ∉ S) := fun h => by have h1 := arrK.lt X8.out _ h; omega
        have NCqY : Hid (PY ∉ SC) := fun h => by have h1 := cellK.lt C8.out _ h; omega
        have NYqY : Hid (PY ∉ SY) := fun h => by have h1 := arrK.lt Y8.out _ h; omega
        have HPY := Lib.hid hPY
        clear hPY
        have hb9 : Below w8.heap.size w8 (w8.alloc (.cells #[.slice Ya0 Yn0 Yc0, .slice Ya1 Yn1 Yc1, .slice Ya2 Yn2 Yc2] 31)) := (Below.refl _ _).alloc (Nat.le_refl _) _
        have gg9 := keep_block hb9 gg8 (lt_of_block gg8)
        have ll9 := keep_block hb9 ll8 (lt_of_block ll8)
        have pp9 := keep_block hb9 pp8 (lt_of_block pp8)
        have qX9 := keep_block hb9 qX8 (lt_of_block qX8)
        have at9 := keep_block hb9 at8 (lt_of_block at8)
        have ot9 := keep_block hb9 ot8 (lt_of_block ot8)
        have qC9 := keep_block hb9 qC8 (lt_of_block qC8)
        have X9 : Hid (arrK.own (w8.alloc (.cells #[.slice Ya0 Yn0 Yc0, .slice Ya1 Yn1 Yc1, .slice Ya2 Yn2 Yc2] 31)) S [.slice xa0 xn0 xc0, .slice xa1 xn1 xc1, .slice xa2 xn2 xc2] xx) := arrK.ownBelow X8.out hb9
        have C9 : Hid (cellK.own (w8.alloc (.cells #[.slice Ya0 Yn0 Yc0, .slice Ya1 Yn1 Yc1, .slice Ya2 Yn2 Yc2] 31)) SC [.slice Ca0 Cn0 Cc0, .bool pz] (l, pz)) := cellK.ownBelow C8.out hb9
        have Y9 : Hid (arrK.own (w8.alloc (.cells #[.slice Ya0 Yn0 Yc0, .slice Ya1 Yn1 Yc1, .slice Ya2 Yn2 Yc2] 31)) SY [.slice Ya0 Yn0 Yc0, .slice Ya1 Yn1 Yc1, .slice Ya2 Yn2 Yc2] x1) := arrK.ownBelow Y8.out hb9
        have qY9 := heap_alloc_new w8 (.cells #[.slice Ya0 Yn0 Yc0, .slice Ya1 Yn1 Yc1, .slice Ya2 Yn2 Yc2] 31)
        have HB9 : Hid (Below w.heap.size w (w8.alloc (.cells #[.slice Ya0 Yn0 Yc0, .slice Ya1 Yn1 Yc1, .slice Ya2 Yn2 Yc2] 31))) := HB8.out.trans (hb9.mono HB8.out.size)
        obtain ⟨egg0, egg1, egg2, egg3⟩ := cells4 gg9
        obtain ⟨eat0, eat1, eat2⟩ := cells3 at9
        go_wp2_with fail
        clear hb9 egg0 egg1 egg2 egg3 eat0 eat1 eat2
        clear gg8 ll8 pp8 qX8 at8 ot8 qC8 X8 C8 Y8 HB8
        generalize (w8.alloc (.cells #[.slice Ya0 Yn0 Yc0, .slice Ya1 Yn1 Yc1, .slice Ya2 Yn2 Yc2] 31)) = w9 at gg9 ll9 pp9 qX9 at9 ot9 qC9 X9 C9 Y9 qY9 HB9 ⊢
        rw [HPY.out] at qY9
        (try simp only [HPY.out])
        clear HPY
        clear kgg0 kgg1 kgg2 kgg3 kqX0 kqX1 kqX2 kat0 kat1 kat2 kqC0 kqC1
        refine (loadC_at LOAD.out HH1.out (arrK.read Y9.out) HFIT1.out).mono ?_
        rintro e w10 ⟨cs, SU, rfl, own10, hs10, hb10⟩
        have gg10 := keep_block hb10 gg9 (lt_of_block gg9)
        have ll10 := keep_block hb10 ll9 (lt_of_block ll9)
        have pp10 := keep_block hb10 pp9 (lt_of_block pp9)
        have qX10 := keep_block hb10 qX9 (lt_of_block qX9)
        have at10 := keep_block hb10 at9 (lt_of_block at9)
        have ot10 := keep_block hb10 ot9 (lt_of_block ot9)
        have qC10 := keep_block hb10 qC9 (lt_of_block qC9)
        have qY10 := keep_block hb10 qY9 (lt_of_block qY9)
        have X10 : Hid (arrK.own w10 S [.slice xa0 xn0 xc0, .slice xa1 xn1 xc1, .slice xa2 xn2 xc2] xx) := arrK.ownBelow X9.out hb10
        have C10 : Hid (cellK.own w10 SC [.slice Ca0 Cn0 Cc0, .bool pz] (l, pz)) := cellK.ownBelow C9.out hb10
        have Y10 : Hid (arrK.own w10 SY [.slice Ya0 Yn0 Yc0, .slice Ya1 Yn1 Yc1, .slice Ya2 Yn2 Yc2] x1) := arrK.ownBelow Y9.out hb10
        have HB10 : Hid (Below w.heap.size w w10) := HB9.out.trans (hb10.mono HB9.out.size)
        have BU : Hid (∀ b ∈ SU, w9.heap.size ≤ b) := hs10
        clear hs10
        obtain ⟨Ua0, Un0, Uc0, rfl, _⟩ := cell_rd (cellK.read own10)
        have U10 : Hid (cellK.own w10 SU [.slice Ua0 Un0 Uc0, .bool pz] (l, pz)) := own10
        have DXU : Hid (∀ b ∈ S, b ∉ SU) := fun b h1 h2 => by have h3 := arrK.lt X9.out b h1; have h4 := BU.out b h2; omega
        have DCU : Hid (∀ b ∈ SC, b ∉ SU) := fun b h1 h2 => by have h3 := cellK.lt C9.out b h1; have h4 := BU.out b h2; omega
        have DYU : Hid (∀ b ∈ SY, b ∉ SU) := fun b h1 h2 => by have h3 := arrK.lt Y9.out b h1; have h4 := BU.out b h2; omega
        have NUgg : Hid (PG ∉ SU) := fun h => by have h1 := lt_of_block gg9; have h2 := BU.out _ h; omega
        have NUll : Hid ((PG + 1) ∉ SU) := fun h => by have h1 := lt_of_block ll9; have h2 := BU.out _ h; omega
        have NUpp : Hid (Pg ∉ SU) := fun h => by have h1 := lt_of_block pp9; have h2 := BU.out _ h; omega
        have NUqX : Hid ((PG + 1 + 1) ∉ SU) := fun h => by have h1 := lt_of_block qX9; have h2 := BU.out _ h; omega
        have NUat : Hid (Pat ∉ SU) := fun h => by have h1 := lt_of_block at9; have h2 := BU.out _ h; omega
        have NUot : Hid (Pot ∉ SU) := fun h => by have h1 := lt_of_block ot9; have h2 := BU.out _ h; omega
        have NUqC : Hid (PC ∉ SU) := fun h => by have h1 := lt_of_block qC9; have h2 := BU.out _ h; omega
        have NUqY : Hid (PY ∉ SU) := fun h => by have h1 := lt_of_block qY9; have h2 := BU.out _ h; omega
        clear own10 hb10
        clear gg9 ll9 pp9 qX9 at9 ot9 qC9 qY9 X9 C9 Y9 HB9
        obtain ⟨PU, hPU⟩ : ∃ P, w10.heap.size = P := ⟨_, rfl⟩
        have NXqU : Hid (PU ∉ S) := fun h => by have h1 := arrK.lt X10.out _ h; omega
        have NCqU : Hid (PU ∉ SC) := fun h => by have h1 := cellK.lt C10.out _ h; omega
        have NYqU : Hid (PU ∉ SY) := fun h => by have h1 := arrK.lt Y10.out _ h; omega
        have NUqU : Hid (PU ∉ SU) := fun h => by have h1 := cellK.lt U10.out _ h; omega
        have HPU := Lib.hid hPU
        clear hPU
        have hb11 : Below w10.heap.size w10 (w10.alloc (.cells #[.slice Ua0 Un0 Uc0, .bool pz] 42)) := (Below.refl _ _).alloc (Nat.le_refl _) _
        have gg11 := keep_block hb11 gg10 (lt_of_block gg10)
        have ll11 := keep_block hb11 ll10 (lt_of_block ll10)
        have pp11 := keep_block hb11 pp10 (lt_of_block pp10)
        have qX11 := keep_block hb11 qX10 (lt_of_block qX10)
        have at11 := keep_block hb11 at10 (lt_of_block at10)
        have ot11 := keep_block hb11 ot10 (lt_of_block ot10)
        have qC11 := keep_block hb11 qC10 (lt_of_block qC10)
        have qY11 := keep_block hb11 qY10 (lt_of_block qY10)
        have X11 : Hid (arrK.own (w10.alloc (.cells #[.slice Ua0 Un0 Uc0, .bool pz] 42)) S [.slice xa0 xn0 xc0, .slice xa1 xn1 xc1, .slice xa2 xn2 xc2] xx) := arrK.ownBelow X10.out hb11
        have C11 : Hid (cellK.own (w10.alloc (.cells #[.slice Ua0 Un0 Uc0, .bool pz] 42)) SC [.slice Ca0 Cn0 Cc0, .bool pz] (l, pz)) := cellK.ownBelow C10.out hb11
        have Y11 : Hid (arrK.own (w10.alloc (.cells #[.slice Ua0 Un0 Uc0, .bool pz] 42)) SY [.slice Ya0 Yn0 Yc0, .slice Ya1 Yn1 Yc1, .slice Ya2 Yn2 Yc2] x1) := arrK.ownBelow Y10.out hb11
        have U11 : Hid (cellK.own (w10.alloc (.cells #[.slice Ua0 Un0 Uc0, .bool pz] 42)) SU [.slice Ua0 Un0 Uc0, .bool pz] (l, pz)) := cellK.ownBelow U10.out hb11
        have qU11 := heap_alloc_new w10 (.cells #[.slice Ua0 Un0 Uc0, .bool pz] 42)
        have HB11 : Hid (Below w.heap.size w (w10.alloc (.cells #[.slice Ua0 Un0 Uc0, .bool pz] 42))) := HB10.out.trans (hb11.mono HB10.out.size)
        obtain ⟨egg0, egg1, egg2, egg3⟩ := cells4 gg11
        obtain ⟨eqY0, eqY1, eqY2⟩ := cells3 qY11
        obtain ⟨eot0, eot1, eot2⟩ := cells3 ot11
        go_wp2_with fail
        clear hb11 egg0 egg1 egg2 egg3 eqY0 eqY1 eqY2 eot0 eot1 eot2
        clear gg10 ll10 pp10 qX10 at10 ot10 qC10 qY10 X10 C10 Y10 U10 HB10
        generalize (w10.alloc (.cells #[.slice Ua0 Un0 Uc0, .bool pz] 42)) = w11 at gg11 ll11 pp11 qX11 at11 ot11 qC11 qY11 X11 C11 Y11 U11 qU11 HB11 ⊢
        rw [HPU.out] at qU11
        (try simp only [HPU.out])
        clear HPU
        refine (loadC_at LOAD.out HS1.out (arrK.read Y11.out) HFIT1.out).mono ?_
        rintro e w12 ⟨cs, SV, rfl, own12, hs12, hb12⟩
        have gg12 := keep_block hb12 gg11 (lt_of_block gg11)
        have ll12 := keep_block hb12 ll11 (lt_of_block ll11)
        have pp12 := keep_block hb12 pp11 (lt_of_block pp11)
        have qX12 := keep_block hb12 qX11 (lt_of_block qX11)
        have at12 := keep_block hb12 at11 (lt_of_block at11)
        have ot12 := keep_block hb12 ot11 (lt_of_block ot11)
        have qC12 := keep_block hb12 qC11 (lt_of_block qC11)
        have qY12 := keep_block hb12 qY11 (lt_of_block qY11)
        have qU12 := keep_block hb12 qU11 (lt_of_block qU11)
        have X12 : Hid (arrK.own w12 S [.slice xa0 xn0 xc0, .slice xa1 xn1 xc1, .slice xa2 xn2 xc2] xx) := arrK.ownBelow X11.out hb12
        have C12 : Hid (cellK.own w12 SC [.slice Ca0 Cn0 Cc0, .bool pz] (l, pz)) := cellK.ownBelow C11.out hb12
        have Y12 : Hid (arrK.own w12 SY [.slice Ya0 Yn0 Yc0, .slice Ya1 Yn1 Yc1, .slice Ya2 Yn2 Yc2] x1) := arrK.ownBelow Y11.out hb12
        have U12 : Hid (cellK.own w12 SU [.slice Ua0 Un0 Uc0, .bool pz] (l, pz)) := cellK.ownBelow U11.out hb12
        have HB12 : Hid (Below w.heap.size w w12) := HB11.out.trans (hb12.mono HB11.out.size)
        have BV : Hid (∀ b ∈ SV, w11.heap.size ≤ b) := hs12
        clear hs12
        obtain ⟨Va0, Vn0, Vc0, rfl, _⟩ := cell_rd (cellK.read own12)
        have V12 : Hid (cellK.own w12 SV [.slice Va0 Vn0 Vc0, .bool p1'] (s1, p1')) := own12
        have DXV : Hid (∀ b ∈ S, b ∉ SV) := fun b h1 h2 => by have h3 := arrK.lt X11.out b h1; have h4 := BV.out b h2; omega
        have DCV : Hid (∀ b ∈ SC, b ∉ SV) := fun b h1 h2 => by have h3 := cellK.lt C11.out b h1; have h4 := BV.out b h2; omega
        have DYV : Hid (∀ b ∈ SY, b ∉ SV) := fun b h1 h2 => by have h3 := arrK.lt Y11.out b h1; have h4 := BV.out b h2; omega
        have DUV : Hid (∀ b ∈ SU, b ∉ SV) := fun b h1 h2 => by have h3 := cellK.lt U11.out b h1; have h4 := BV.out b h2; omega
        have NVgg : Hid (PG ∉ SV) := fun h => by have h1 := lt_of_block gg11; have h2 := BV.out _ h; omega
        have NVll : Hid ((PG + 1) ∉ SV) := fun h => by have h1 := lt_of_block ll11; have h2 := BV.out _ h; omega
        have NVpp : Hid (Pg ∉ SV) := fun h => by have h1 := lt_of_block pp11; have h2 := BV.out _ h; omega
        have NVqX : Hid ((PG + 1 + 1) ∉ SV) := fun h => by have h1 := lt_of_block qX11; have h2 := BV.out _ h; omega
        have NVat : Hid (Pat ∉ SV) := fun h => by have h1 := lt_of_block at11; have h2 := BV.out _ h; omega
        have NVot : Hid (Pot ∉ SV) := fun h => by have h1 := lt_of_block ot11; have h2 := BV.out _ h; omega
        have NVqC : Hid (PC ∉ SV) := fun h => by have h1 := lt_of_block qC11; have h2 := BV.out _ h; omega
        have NVqY : Hid (PY ∉ SV) := fun h => by have h1 := lt_of_block qY11; have h2 := BV.out _ h; omega
        have NVqU : Hid (PU ∉ SV) := fun h => by have h1 := lt_of_block qU11; have h2 := BV.out _ h; omega
        clear own12 hb12
        clear gg11 ll11 pp11 qX11 at11 ot11 qC11 qY11 qU11 X11 C11 Y11 U11 HB11
        obtain ⟨PV, hPV⟩ : ∃ P, w12.heap.size = P := ⟨_, rfl⟩
        have NXqV : Hid (PV ∉ S) := fun h => by have h1 := arrK.lt X12.out _ h; omega
        have NCqV : Hid (PV ∉ SC) := fun h => by have h1 := cellK.lt C12.out _ h; omega
        have NYqV : Hid (PV ∉ SY) := fun h => by have h1 := arrK.lt Y12.out _ h; omega
        have NUqV : Hid (PV ∉ SU) := fun h => by have h1 := cellK.lt U12.out _ h; omega
        have NVqV : Hid (PV ∉ SV) := fun h => by have h1 := cellK.lt V12.out _ h; omega
        have HPV := Lib.hid hPV
        clear hPV
        have hb13 : Below w12.heap.size w12 (w12.alloc (.cells #[.slice Va0 Vn0 Vc0, .bool p1'] 42)) := (Below.refl _ _).alloc (Nat.le_refl _) _
        have gg13 := keep_block hb13 gg12 (lt_of_block gg12)
        have ll13 := keep_block hb13 ll12 (lt_of_block ll12)
        have pp13 := keep_block hb13 pp12 (lt_of_block pp12)
        have qX13 := keep_block hb13 qX12 (lt_of_block qX12)
        have at13 := keep_block hb13 at12 (lt_of_block at12)
        have ot13 := keep_block hb13 ot12 (lt_of_block ot12)
        have qC13 := keep_block hb13 qC12 (lt_of_block qC12)
        have qY13 := keep_block hb13 qY12 (lt_of_block qY12)
        have qU13 := keep_block hb13 qU12 (lt_of_block qU12)
        have X13 : Hid (arrK.own (w12.alloc (.cells #[.slice Va0 Vn0 Vc0, .bool p1'] 42)) S [.slice xa0 xn0 xc0, .slice xa1 xn1 xc1, .slice xa2 xn2 xc2] xx) := arrK.ownBelow X12.out hb13
        have C13 : Hid (cellK.own (w12.alloc (.cells #[.slice Va0 Vn0 Vc0, .bool p1'] 42)) SC [.slice Ca0 Cn0 Cc0, .bool pz] (l, pz)) := cellK.ownBelow C12.out hb13
        have Y13 : Hid (arrK.own (w12.alloc (.cells #[.slice Va0 Vn0 Vc0, .bool p1'] 42)) SY [.slice Ya0 Yn0 Yc0, .slice Ya1 Yn1 Yc1, .slice Ya2 Yn2 Yc2] x1) := arrK.ownBelow Y12.out hb13
        have U13 : Hid (cellK.own (w12.alloc (.cells #[.slice Va0 Vn0 Vc0, .bool p1'] 42)) SU [.slice Ua0 Un0 Uc0, .bool pz] (l, pz)) := cellK.ownBelow U12.out hb13
        have V13 : Hid (cellK.own (w12.alloc (.cells #[.slice Va0 Vn0 Vc0, .bool p1'] 42)) SV [.slice Va0 Vn0 Vc0, .bool p1'] (s1, p1')) := cellK.ownBelow V12.out hb13
        have qV13 := heap_alloc_new w12 (.cells #[.slice Va0 Vn0 Vc0, .bool p1'] 42)
        have HB13 : Hid (Below w.heap.size w (w12.alloc (.cells #[.slice Va0 Vn0 Vc0, .bool p1'] 42))) := HB12.out.trans (hb13.mono HB12.out.size)
        obtain ⟨egg0, egg1, egg2, egg3⟩ := cells4 gg13
        obtain ⟨eqX0, eqX1, eqX2⟩ := cells3 qX13
        obtain ⟨eot0, eot1, eot2⟩ := cells3 ot13
        go_wp2_with fail
        clear hb13 egg0 egg1 egg2 egg3 eqX0 eqX1 eqX2 eot0 eot1 eot2
        clear gg12 ll12 pp12 qX12 at12 ot12 qC12 qY12 qU12 X12 C12 Y12 U12 V12 HB12
        generalize (w12.alloc (.cells #[.slice Va0 Vn0 Vc0, .bool p1'] 42)) = w13 at gg13 ll13 pp13 qX13 at13 ot13 qC13 qY13 qU13 X13 C13 Y13 U13 V13 qV13 HB13 ⊢
        rw [HPV.out] at qV13
        (try simp only [HPV.out])
        clear HPV
        refine (loadS_at HS2.out (arrK.read X13.out)).mono ?_
        rintro e w14 ⟨cs, ST, rfl, own14, hs14, hb14⟩
        have gg14 := keep_block hb14 gg13 (lt_of_block gg13)
        have ll14 := keep_block hb14 ll13 (lt_of_block ll13)
        have pp14 := keep_block hb14 pp13 (lt_of_block pp13)
        have qX14 := keep_block hb14 qX13 (lt_of_block qX13)
        have at14 := keep_block hb14 at13 (lt_of_block at13)
        have ot14 := keep_block hb14 ot13 (lt_of_block ot13)
        have qC14 := keep_block hb14 qC13 (lt_of_block qC13)
        have qY14 := keep_block hb14 qY13 (lt_of_block qY13)
        have qU14 := keep_block hb14 qU13 (lt_of_block qU13)
        have qV14 := keep_block hb14 qV13 (lt_of_block qV13)
        have X14 : Hid (arrK.own w14 S [.slice xa0 xn0 xc0, .slice xa1 xn1 xc1, .slice xa2 xn2 xc2] xx) := arrK.ownBelow X13.out hb14
        have C14 : Hid (cellK.own w14 SC [.slice Ca0 Cn0 Cc0, .bool pz] (l, pz)) := cellK.ownBelow C13.out hb14
        have Y14 : Hid (arrK.own w14 SY [.slice Ya0 Yn0 Yc0, .slice Ya1 Yn1 Yc1, .slice Ya2 Yn2 Yc2] x1) := arrK.ownBelow Y13.out hb14
        have U14 : Hid (cellK.own w14 SU [.slice Ua0 Un0 Uc0, .bool pz] (l, pz)) := cellK.ownBelow U13.out hb14
        have V14 : Hid (cellK.own w14 SV [.slice Va0 Vn0 Vc0, .bool p1'] (s1, p1')) := cellK.ownBelow V13.out hb14
        have HB14 : Hid (Below w.heap.size w w14) := HB13.out.trans (hb14.mono HB13.out.size)
        have BT : Hid (∀ b ∈ ST, w13.heap.size ≤ b) := hs14
        clear hs14
        obtain ⟨Ta0, Tn0, Tc0, rfl, _⟩ := cell_rd (cellK.read own14)
        have T14 : Hid (cellK.own w14 ST [.slice Ta0 Tn0 Tc0, .bool p2'] (s2, p2')) := own14
        have DXT : Hid (∀ b ∈ S, b ∉ ST) := fun b h1 h2 => by have h3 := arrK.lt X13.out b h1; have h4 := BT.out b h2; omega
        have DCT : Hid (∀ b ∈ SC, b ∉ ST) := fun b h1 h2 => by have h3 := cellK.lt C13.out b h1; have h4 := BT.out b h2; omega
        have DYT : Hid (∀ b ∈ SY, b ∉ ST) := fun b h1 h2 => by have h3 := arrK.lt Y13.out b h1; have h4 := BT.out b h2; omega
        have DUT : Hid (∀ b ∈ SU, b ∉ ST) := fun b h1 h2 => by have h3 := cellK.lt U13.out b h1; have h4 := BT.out b h2; omega
        have DVT : Hid (∀ b ∈ SV, b ∉ ST) := fun b h1 h2 => by have h3 := cellK.lt V13.out b h1; have h4 := BT.out b h2; omega
        have NTgg : Hid (PG ∉ ST) := fun h => by have h1 := lt_of_block gg13; have h2 := BT.out _ h; omega
        have NTll : Hid ((PG + 1) ∉ ST) := fun h => by have h1 := lt_of_block ll13; have h2 := BT.out _ h; omega
        have NTpp : Hid (Pg ∉ ST) := fun h => by have h1 := lt_of_block pp13; have h2 := BT.out _ h; omega
        have NTqX : Hid ((PG + 1 + 1) ∉ ST) := fun h => by have h1 := lt_of_block qX13; have h2 := BT.out _ h; omega
        have NTat : Hid (Pat ∉ ST) := fun h => by have h1 := lt_of_block at13; have h2 := BT.out _ h; omega
        have NTot : Hid (Pot ∉ ST) := fun h => by have h1 := lt_of_block ot13; have h2 := BT.out _ h; omega
        have NTqC : Hid (PC ∉ ST) := fun h => by have h1 := lt_of_block qC13; have h2 := BT.out _ h; omega
        have NTqY : Hid (PY ∉ ST) := fun h => by have h1 := lt_of_block qY13; have h2 := BT.out _ h; omega
        have NTqU : Hid (PU ∉ ST) := fun h => by have h1 := lt_of_block qU13; have h2 := BT.out _ h; omega
        have NTqV : Hid (PV ∉ ST) := fun h => by have h1 := lt_of_block qV13; have h2 := BT.out _ h; omega
        clear own14 hb14
        clear gg13 ll13 pp13 qX13 at13 ot13 qC13 qY13 qU13 qV13 X13 C13 Y13 U13 V13 HB13
        obtain ⟨PT, hPT⟩ : ∃ P, w14.heap.size = P := ⟨_, rfl⟩
        have NXqT : Hid (PT ∉ S) := fun h => by have h1 := arrK.lt X14.out _ h; omega
        have NCqT : Hid (PT ∉ SC) := fun h => by have h1 := cellK.lt C14.out _ h; omega
        have NYqT : Hid (PT ∉ SY) := fun h => by have h1 := arrK.lt Y14.out _ h; omega
        have NUqT : Hid (PT ∉ SU) := fun h => by have h1 := cellK.lt U14.out _ h; omega
        have NVqT : Hid (PT ∉ SV) := fun h => by have h1 := cellK.lt V14.out _ h; omega
        have NTqT : Hid (PT ∉ ST) := fun h => by have h1 := cellK.lt T14.out _ h; omega
        have HPT := Lib.hid hPT
        clear hPT
        have hb15 : Below w14.heap.size w14 (w14.alloc (.cells #[.slice Ta0 Tn0 Tc0, .bool p2'] 42)) := (Below.refl _ _).alloc (Nat.le_refl _) _
        have gg15 := keep_block hb15 gg14 (lt_of_block gg14)
        have ll15 := keep_block hb15 ll14 (lt_of_block ll14)
        have pp15 := keep_block hb15 pp14 (lt_of_block pp14)
        have qX15 := keep_block hb15 qX14 (lt_of_block qX14)
        have at15 := keep_block hb15 at14 (lt_of_block at14)
        have ot15 := keep_block hb15 ot14 (lt_of_block ot14)
        have qC15 := keep_block hb15 qC14 (lt_of_block qC14)
        have qY15 := keep_block hb15 qY14 (lt_of_block qY14)
        have qU15 := keep_block hb15 qU14 (lt_of_block qU14)
        have qV15 := keep_block hb15 qV14 (lt_of_block qV14)
        have X15 : Hid (arrK.own (w14.alloc (.cells #[.slice Ta0 Tn0 Tc0, .bool p2'] 42)) S [.slice xa0 xn0 xc0, .slice xa1 xn1 xc1, .slice xa2 xn2 xc2] xx) := arrK.ownBelow X14.out hb15
        have C15 : Hid (cellK.own (w14.alloc (.cells #[.slice Ta0 Tn0 Tc0, .bool p2'] 42)) SC [.slice Ca0 Cn0 Cc0, .bool pz] (l, pz)) := cellK.ownBelow C14.out hb15
        have Y15 : Hid (arrK.own (w14.alloc (.cells #[.slice Ta0 Tn0 Tc0, .bool p2'] 42)) SY [.slice Ya0 Yn0 Yc0, .slice Ya1 Yn1 Yc1, .slice Ya2 Yn2 Yc2] x1) := arrK.ownBelow Y14.out hb15
        have U15 : Hid (cellK.own (w14.alloc (.cells #[.slice Ta0 Tn0 Tc0, .bool p2'] 42)) SU [.slice Ua0 Un0 Uc0, .bool pz] (l, pz)) := cellK.ownBelow U14.out hb15
        have V15 : Hid (cellK.own (w14.alloc (.cells #[.slice Ta0 Tn0 Tc0, .bool p2'] 42)) SV [.slice Va0 Vn0 Vc0, .bool p1'] (s1, p1')) := cellK.ownBelow V14.out hb15
        have T15 : Hid (cellK.own (w14.alloc (.cells #[.slice Ta0 Tn0 Tc0, .bool p2'] 42)) ST [.slice Ta0 Tn0 Tc0, .bool p2'] (s2, p2')) := cellK.ownBelow T14.out hb15
        have qT15 := heap_alloc_new w14 (.cells #[.slice Ta0 Tn0 Tc0, .bool p2'] 42)
        have HB15 : Hid (Below w.heap.size w (w14.alloc (.cells #[.slice Ta0 Tn0 Tc0, .bool p2'] 42))) := HB14.out.trans (hb15.mono HB14.out.size)
        obtain ⟨eqU0, eqU1⟩ := cells2 qU15
        obtain ⟨eqC0, eqC1⟩ := cells2 qC15
        go_wp2_with fail
        clear hb15 eqU0 eqU1 eqC0 eqC1
        clear gg14 ll14 pp14 qX14 at14 ot14 qC14 qY14 qU14 qV14 X14 C14 Y14 U14 V14 T14 HB14
        generalize (w14.alloc (.cells #[.slice Ta0 Tn0 Tc0, .bool p2'] 42)) = w15 at gg15 ll15 pp15 qX15 at15 ot15 qC15 qY15 qU15 qV15 X15 C15 Y15 U15 V15 T15 qT15 HB15 ⊢
        rw [HPT.out] at qT15
        (try simp only [HPT.out])
        clear HPT
        refine (sameCell_k (cell_ints U15.out) (cell_ints C15.out)).mono ?_
        rintro e w16 ⟨rfl, hb16⟩
        have gg16 := keep_block hb16 gg15 (lt_of_block gg15)
        have ll16 := keep_block hb16 ll15 (lt_of_block ll15)
        have pp16 := keep_block hb16 pp15 (lt_of_block pp15)
        have qX16 := keep_block hb16 qX15 (lt_of_block qX15)
        have at16 := keep_block hb16 at15 (lt_of_block at15)
        have ot16 := keep_block hb16 ot15 (lt_of_block ot15)
        have qC16 := keep_block hb16 qC15 (lt_of_block qC15)
        have qY16 := keep_block hb16 qY15 (lt_of_block qY15)
        have qU16 := keep_block hb16 qU15 (lt_of_block qU15)
        have qV16 := keep_block hb16 qV15 (lt_of_block qV15)
        have qT16 := keep_block hb16 qT15 (lt_of_block qT15)
        have X16 : Hid (arrK.own w16 S [.slice xa0 xn0 xc0, .slice xa1 xn1 xc1, .slice xa2 xn2 xc2] xx) := arrK.ownBelow X15.out hb16
        have C16 : Hid (cellK.own w16 SC [.slice Ca0 Cn0 Cc0, .bool pz] (l, pz)) := cellK.ownBelow C15.out hb16
        have Y16 : Hid (arrK.own w16 SY [.slice Ya0 Yn0 Yc0, .slice Ya1 Yn1 Yc1, .slice Ya2 Yn2 Yc2] x1) := arrK.ownBelow Y15.out hb16
        have U16 : Hid (cellK.own w16 SU [.slice Ua0 Un0 Uc0, .bool pz] (l, pz)) := cellK.ownBelow U15.out hb16
        have V16 : Hid (cellK.own w16 SV [.slice Va0 Vn0 Vc0, .bool p1'] (s1, p1')) := cellK.ownBelow V15.out hb16
        have T16 : Hid (cellK.own w16 ST [.slice Ta0 Tn0 Tc0, .bool p2'] (s2, p2')) := cellK.ownBelow T15.out hb16
        have HB16 : Hid (Below w.heap.size w w16) := HB15.out.trans (hb16.mono HB15.out.size)
        clear gg15 ll15 pp15 qX15 at15 ot15 qC15 qY15 qU15 qV15 qT15 X15 C15 Y15 U15 V15 T15 HB15
        clear hb16
        obtain ⟨kat0, kat1, kat2⟩ := cells3 at16
        obtain ⟨kot0, kot1, kot2⟩ := cells3 ot16
        obtain ⟨kqV0, kqV1⟩ := cells2 qV16
        obtain ⟨kqT0, kqT1⟩ := cells2 qT16
        by_cases e0 : ax = ox
        · by_cases e1 : ay = oy
          · by_cases e2 : az = oz
            · have t0 : (ax == ox) = true := beq_iff_eq.2 e0
              have t1 : (ay == oy) = true := beq_iff_eq.2 e1
              have t2 : (az == oz) = true := beq_iff_eq.2 e2
              clear e0 e1 e2
              go_wp2_with fail
              go_ret
              exact ⟨rfl, HB16.out⟩
            · have t0 : (ax == ox) = true := beq_iff_eq.2 e0
              have t1 : (ay == oy) = true := beq_iff_eq.2 e1
              have t2 : (az == oz) = false := beq_eq_false_iff_ne.2 e2
              obtain ⟨hs, hp⟩ := HNE.out (fun h => e2 h.2.2)
              subst hs
              subst hp
              clear e0 e1 e2
              go_wp2_with fail
              refine (sameCell_k (cell_ints V16.out) (cell_ints T16.out)).mono ?_
              rintro e w17 ⟨rfl, hb⟩
              have HBE : Hid (Below w.heap.size w w17) := HB16.out.trans (hb.mono HB16.out.size)
              clear hb kat0 kat1 kat2 kot0 kot1 kot2 kqV0 kqV1 kqT0 kqT1
              go_wp2_with fail
              go_ret
              exact ⟨rfl, HBE.out⟩
          · have t0 : (ax == ox) = true := beq_iff_eq.2 e0
            have t1 : (ay == oy) = false := beq_eq_false_iff_ne.2 e1
            obtain ⟨hs, hp⟩ := HNE.out (fun h => e1 h.2.1)
            subst hs
            subst hp
            clear e0 e1
            go_wp2_with fail
            refine (sameCell_k (cell_ints V16.out) (cell_ints T16.out)).mono ?_
            rintro e w17 ⟨rfl, hb⟩
            have HBE : Hid (Below w.heap.size w w17) := HB16.out.trans (hb.mono HB16.out.size)
            clear hb kat0 kat1 kat2 kot0 kot1 kot2 kqV0 kqV1 kqT0 kqT1
            go_wp2_with fail
            go_ret
            exact ⟨rfl, HBE.out⟩
        · have t0 : (ax == ox) = false := beq_eq_false_iff_ne.2 e0
          obtain ⟨hs, hp⟩ := HNE.out (fun h => e0 h.1)
          subst hs
          subst hp
          clear e0
          go_wp2_with fail
          refine (sameCell_k (cell_ints V16.out) (cell_ints T16.out)).mono ?_
          rintro e w17 ⟨rfl, hb⟩
          have HBE : Hid (Below w.heap.size w w17) := HB16.out.trans (hb.mono HB16.out.size)
          clear hb kat0 kat1 kat2 kot0 kot1 kot2 kqV0 kqV1 kqT0 kqT1
          go_wp2_with fail
          go_ret
          exact ⟨rfl, HBE.out⟩

end Go.Proofs.Ytfpfgaifhmgpiaa

namespace Go.Proofs.Ytfpfgaifhmgpiaa
open Go.RowKit Go.PlainAid

set_option linter.unusedVariables false

set_option maxHeartbeats 16000000 in
set_option maxRecDepth 100000 in
theorem implStoreCell_is : IStoreCell := by
  intro ga gb gr gd bx br bc cs x ka kn kc kl kp w h hf hk hkl
  obtain ⟨a0, n0, c0, a1, n1, c1, a2, n2, c2, rfl, h0, h1, h2⟩ := arr_rd h
  obtain ⟨w1, hw1⟩ : ∃ u, ((((w.alloc (.cells #[.int .i64 ga, .int .i64 gb, .int .i64 gr, .int .i64 gd] 25)).alloc (.cells #[.slice a0 n0 c0, .slice a1 n1 c1, .slice a2 n2 c2] 31)).alloc (.cells #[.int .i64 bx, .int .i64 br, .int .i64 bc] 37)).alloc (.cells #[.slice ka kn kc, .bool kp] 42)).alloc (.cells #[.slice none 0 0, .slice none 0 0, .slice none 0 0] 31) = u := ⟨_, rfl⟩
  obtain ⟨g1, p1, l1, m1', r1, hb1⟩ := alloc5 hw1
  obtain ⟨kl1, _, km, _⟩ := Kn.row_len hk
  unfold maxLen at km
  have kn' : (kn : Int) ≤ 9223372036854775807 := by omega
  have KL : Hid (kl.length = kn) := kl1
  have HK1 := Lib.hid (intsK.below hk hb1)
  have HB1 := Lib.hid hb1
  have HF := Lib.hid hf
  have H := Lib.hid h
  have H1 := Lib.hid (arrK.below h HB1.out)
  clear h hf h0 h1 h2 hk kl1
  obtain ⟨x0, x1, x2, x3⟩ := cells4 g1
  obtain ⟨y0, y1, y2⟩ := cells3 p1
  go_enter Try.func17, Try.ntmps17
  go_wp2_with fail
  refine (implCopyA_is H1.out HF.out).mono ?_
  rintro e w2 ⟨cs2, S2, rfl, own2, hS2, hb2⟩
  obtain ⟨d0, m0, k0, d1, m1, k1, d2, m2, k2, S0, S1', S2', rfl, rfl, -⟩ := arr_own own2
  obtain ⟨w3, hw3⟩ : ∃ u, w2.alloc (.cells #[.slice d0 m0 k0, .slice d1 m1 k1, .slice d2 m2 k2] 31) = u := ⟨_, rfl⟩
  have hb3 : Below w2.heap.size w2 w3 := by subst hw3; exact (Below.refl _ _).alloc (Nat.le_refl _) _
  have q3 : w3.heap[w2.heap.size]? = some (.cells #[.slice d0 m0 k0, .slice d1 m1 k1, .slice d2 m2 k2] 31) := by subst hw3; exact heap_alloc_new _ _
  have HO3 := Lib.hid (arrK.ownBelow own2 hb3)
  have HB2 : Hid (Below w.heap.size w w2) := HB1.out.trans (hb2.mono HB1.out.size)
  have HB3 : Hid (Below w.heap.size w w3) := HB2.out.trans (hb3.mono HB2.out.size)
  have H3 := Lib.hid (arrK.below (arrK.below H1.out hb2) hb3)
  have HK3 := Lib.hid (intsK.below (intsK.below HK1.out hb2) hb3)
  have m3 := keep_block hb3 (keep_block hb2 m1' (lt_of_block m1')) (Nat.lt_of_lt_of_le (lt_of_block m1') hb2.size)
  have hlt : ∀ b ∈ S0 ++ (S1' ++ S2'), b < w2.heap.size := fun b hb => arrK.lt own2 b hb
  have hge : ∀ b ∈ S0 ++ (S1' ++ S2'), w1.heap.size ≤ b := fun b hb => hS2 b hb
  generalize hU2 : S0 ++ (S1' ++ S2') = T2 at own2 hS2 HO3 hlt hge
  have HS2 : Hid (∀ b ∈ T2, w1.heap.size ≤ b) := hge
  have HNP : Hid (w2.heap.size ∉ T2) := fun hb => by have := hlt _ hb; omega
  have HNR : Hid (∀ b ∈ T2, b ≠ w.heap.size + 1 + 1 + 1 + 1) := fun b hb e => by have := hge b hb; have := lt_of_block r1; omega
  have HRR : Hid (w.heap.size ≤ w.heap.size + 1 + 1 + 1 + 1) := by show _ ≤ _; omega
  have HPR : Hid (w.heap.size + 1 + 1 + 1 + 1 ≠ w2.heap.size) := fun e => by have := lt_of_block r1; have := hb2.size; omega
  have HPW : Hid (w.heap.size ≤ w2.heap.size) := HB2.out.size
  have g3 := keep_block hb3 (keep_block hb2 g1 (lt_of_block g1)) (Nat.lt_of_lt_of_le (lt_of_block g1) hb2.size)
  have l3 := keep_block hb3 (keep_block hb2 l1 (lt_of_block l1)) (Nat.lt_of_lt_of_le (lt_of_block l1) hb2.size)
  have p3 := keep_block hb3 (keep_block hb2 p1 (lt_of_block p1)) (Nat.lt_of_lt_of_le (lt_of_block p1) hb2.size)
  have r3 := keep_block hb3 (keep_block hb2 r1 (lt_of_block r1)) (Nat.lt_of_lt_of_le (lt_of_block r1) hb2.size)
  clear own2 hS2 hb2 hb3 g1 l1 m1' p1 r1 x0 x1 x2 x3 y0 y1 y2 hlt hge hU2
  obtain ⟨x0, x1, x2, x3⟩ := cells4 g3
  obtain ⟨y0, y1, y2⟩ := cells3 p3
  obtain ⟨z0, z1, z2⟩ := cells3 q3
  go_wp2_with fail
  by_cases ha : ArrOk ga gb gr gd x
  case neg =>
    have KA := Lib.hid (decide_eq_false ha)
    have HE : Hid (storedF ga gb gr gd x bx br bc (kl, kp) = x) := if_neg (fun h => ha h.1)
    clear ha
    refine (implArrayOk_is ga gb gr gd _ _ false KA.out _ H3.out HF.out).mono ?_
    rintro e w4 ⟨rfl, hb4⟩
    have HBQ : Hid (Below w.heap.size w w4) := HB3.out.trans (hb4.mono HB3.out.size)
    have qq := keep_block hb4 q3 (lt_of_block q3)
    have rr := keep_block hb4 r3 (lt_of_block r3)
    have gg := keep_block hb4 g3 (lt_of_block g3)
    have ll := keep_block hb4 l3 (lt_of_block l3)
    have mm := keep_block hb4 m3 (lt_of_block m3)
    have HK4 := Lib.hid (intsK.below HK3.out hb4)
    have HO4 := Lib.hid (arrK.ownBelow HO3.out hb4)
    clear hb4 g3 l3 m3 p3 q3 r3 x0 x1 x2 x3 y0 y1 y2 z0 z1 z2
    obtain ⟨x0, x1, x2, x3⟩ := cells4 gg
    obtain ⟨y0, y1, y2⟩ := cells3 ll
    obtain ⟨v0, v1, v2⟩ := cells3 rr
    have f0 := thawed rr 0
    have f1 := thawed rr 1
    have f2 := thawed rr 2
    obtain ⟨u0, u1, u2⟩ := cells3 qq
    have o5 := set_cells (set_cells (set_cells rr 0 (.slice d0 m0 k0)) 1 (.slice d1 m1 k1)) 2 (.slice d2 m2 k2)
    obtain ⟨t0, t1, t2⟩ := cells3 o5
    go_wp2_with fail
    (try simp only [Exit.inBlock, Exit.then])
    refine bodyPost_ret (v := .agg #[.slice d0 m0 k0, .slice d1 m1 k1, .slice d2 m2 k2]) ?_ rfl ⟨_, T2, rfl, ?_, fun b hb => ?_, ?_⟩
    · simp [results, Try.results17, go_sem, t0, t1, t2]
    · rw [HE.out]
      exact arrK.ownSet (arrK.ownSet (arrK.ownSet HO4.out (fun b hb => HNR.out b hb) _) (fun b hb => HNR.out b hb) _) (fun b hb => HNR.out b hb) _
    · have := HS2.out b hb; have := HB1.out.size; omega
    · exact ((HBQ.out.setCell HRR.out _).setCell HRR.out _).setCell HRR.out _
  have KA := Lib.hid (decide_eq_true ha)
  by_cases hn : AdOk ga gb gr gd bx br bc
  case neg =>
    have KN := Lib.hid (decide_eq_false hn)
    have HE : Hid (storedF ga gb gr gd x bx br bc (kl, kp) = x) := if_neg (fun h => hn h.2.1)
    clear ha hn
    refine (implArrayOk_is ga gb gr gd _ _ true KA.out _ H3.out HF.out).mono ?_
    rintro e w4 ⟨rfl, hb4⟩
    have HBQ : Hid (Below w.heap.size w w4) := HB3.out.trans (hb4.mono HB3.out.size)
    have qq := keep_block hb4 q3 (lt_of_block q3)
    have rr := keep_block hb4 r3 (lt_of_block r3)
    have gg := keep_block hb4 g3 (lt_of_block g3)
    have ll := keep_block hb4 l3 (lt_of_block l3)
    have mm := keep_block hb4 m3 (lt_of_block m3)
    have HK4 := Lib.hid (intsK.below HK3.out hb4)
    have HO4 := Lib.hid (arrK.ownBelow HO3.out hb4)
    clear hb4 g3 l3 m3 p3 q3 r3 x0 x1 x2 x3 y0 y1 y2 z0 z1 z2
    obtain ⟨x0, x1, x2, x3⟩ := cells4 gg
    obtain ⟨y0, y1, y2⟩ := cells3 ll
    go_wp2_with fail
    refine (implAddrOk_is ga gb gr gd bx br bc false KN.out _).mono ?_
    rintro e w5 ⟨rfl, hb5⟩
    have HBR : Hid (Below w.heap.size w w5) := HBQ.out.trans (hb5.mono HBQ.out.size)
    have q5 := keep_block hb5 qq (lt_of_block qq)
    have r5 := keep_block hb5 rr (lt_of_block rr)
    have g5 := keep_block hb5 gg (lt_of_block gg)
    have l5 := keep_block hb5 ll (lt_of_block ll)
    have m5 := keep_block hb5 mm (lt_of_block mm)
    have HK5 := Lib.hid (intsK.below HK4.out hb5)
    have HO5 := Lib.hid (arrK.ownBelow HO4.out hb5)
    clear HBQ HO4 HK4 qq rr gg ll mm hb5 x0 x1 x2 x3 y0 y1 y2
    have HBQ := HBR
    have qq := q5
    have rr := r5
    have gg := g5
    have ll := l5
    have mm := m5
    clear HBR q5 r5 g5 l5 m5
    obtain ⟨c0', c1'⟩ := cells2 mm
    obtain ⟨v0, v1, v2⟩ := cells3 rr
    have f0 := thawed rr 0
    have f1 := thawed rr 1
    have f2 := thawed rr 2
    obtain ⟨u0, u1, u2⟩ := cells3 qq
    have o5 := set_cells (set_cells (set_cells rr 0 (.slice d0 m0 k0)) 1 (.slice d1 m1 k1)) 2 (.slice d2 m2 k2)
    obtain ⟨t0, t1, t2⟩ := cells3 o5
    go_wp2_with fail
    (try simp only [Exit.inBlock, Exit.then])
    refine bodyPost_ret (v := .agg #[.slice d0 m0 k0, .slice d1 m1 k1, .slice d2 m2 k2]) ?_ rfl ⟨_, T2, rfl, ?_, fun b hb => ?_, ?_⟩
    · simp [results, Try.results17, go_sem, t0, t1, t2]
    · rw [HE.out]
      exact arrK.ownSet (arrK.ownSet (arrK.ownSet HO5.out (fun b hb => HNR.out b hb) _) (fun b hb => HNR.out b hb) _) (fun b hb => HNR.out b hb) _
    · have := HS2.out b hb; have := HB1.out.size; omega
    · exact ((HBQ.out.setCell HRR.out _).setCell HRR.out _).setCell HRR.out _
  have KN := Lib.hid (decide_eq_true hn)
  by_cases hc : SymOk kl 11
  case neg =>
    have KC := Lib.hid (decide_eq_false hc)
    have HE : Hid (storedF ga gb gr gd x bx br bc (kl, kp) = x) := if_neg (fun h => hc h.2.2)
    clear ha hn hc
    refine (implArrayOk_is ga gb gr gd _ _ true KA.out _ H3.out HF.out).mono ?_
    rintro e w4 ⟨rfl, hb4⟩
    have HBQ : Hid (Below w.heap.size w w4) := HB3.out.trans (hb4.mono HB3.out.size)
    have qq := keep_block hb4 q3 (lt_of_block q3)
    have rr := keep_block hb4 r3 (lt_of_block r3)
    have gg := keep_block hb4 g3 (lt_of_block g3)
    have ll := keep_block hb4 l3 (lt_of_block l3)
    have mm := keep_block hb4 m3 (lt_of_block m3)
    have HK4 := Lib.hid (intsK.below HK3.out hb4)
    have HO4 := Lib.hid (arrK.ownBelow HO3.out hb4)
    clear hb4 g3 l3 m3 p3 q3 r3 x0 x1 x2 x3 y0 y1 y2 z0 z1 z2
    obtain ⟨x0, x1, x2, x3⟩ := cells4 gg
    obtain ⟨y0, y1, y2⟩ := cells3 ll
    go_wp2_with fail
    refine (implAddrOk_is ga gb gr gd bx br bc true KN.out _).mono ?_
    rintro e w5 ⟨rfl, hb5⟩
    have HBR : Hid (Below w.heap.size w w5) := HBQ.out.trans (hb5.mono HBQ.out.size)
    have q5 := keep_block hb5 qq (lt_of_block qq)
    have r5 := keep_block hb5 rr (lt_of_block rr)
    have g5 := keep_block hb5 gg (lt_of_block gg)
    have l5 := keep_block hb5 ll (lt_of_block ll)
    have m5 := keep_block hb5 mm (lt_of_block mm)
    have HK5 := Lib.hid (intsK.below HK4.out hb5)
    have HO5 := Lib.hid (arrK.ownBelow HO4.out hb5)
    clear HBQ HO4 HK4 qq rr gg ll mm hb5 x0 x1 x2 x3 y0 y1 y2
    have HBQ := HBR
    have qq := q5
    have rr := r5
    have gg := g5
    have ll := l5
    have mm := m5
    clear HBR q5 r5 g5 l5 m5
    obtain ⟨c0', c1'⟩ := cells2 mm
    go_wp2_with fail
    refine (implSym11_is HK5.out false KC.out).mono ?_
    rintro e w6 ⟨rfl, hb6⟩
    have HBR : Hid (Below w.heap.size w w6) := HBQ.out.trans (hb6.mono HBQ.out.size)
    have q6 := keep_block hb6 qq (lt_of_block qq)
    have r6 := keep_block hb6 rr (lt_of_block rr)
    have g6 := keep_block hb6 gg (lt_of_block gg)
    have l6 := keep_block hb6 ll (lt_of_block ll)
    have m6 := keep_block hb6 mm (lt_of_block mm)
    have HK6 := Lib.hid (intsK.below HK5.out hb6)
    have HO6 := Lib.hid (arrK.ownBelow HO5.out hb6)
    clear HBQ HO5 HK5 qq rr gg ll mm hb6 c0' c1'
    have HBQ := HBR
    have HO5 := HO6
    have HK5 := HK6
    have qq := q6
    have rr := r6
    have gg := g6
    have ll := l6
    have mm := m6
    clear HBR q6 r6 g6 l6 m6 HK6 HO6
    obtain ⟨v0, v1, v2⟩ := cells3 rr
    have f0 := thawed rr 0
    have f1 := thawed rr 1
    have f2 := thawed rr 2
    obtain ⟨u0, u1, u2⟩ := cells3 qq
    have o5 := set_cells (set_cells (set_cells rr 0 (.slice d0 m0 k0)) 1 (.slice d1 m1 k1)) 2 (.slice d2 m2 k2)
    obtain ⟨t0, t1, t2⟩ := cells3 o5
    go_wp2_with fail
    (try simp only [Exit.inBlock, Exit.then])
    refine bodyPost_ret (v := .agg #[.slice d0 m0 k0, .slice d1 m1 k1, .slice d2 m2 k2]) ?_ rfl ⟨_, T2, rfl, ?_, fun b hb => ?_, ?_⟩
    · simp [results, Try.results17, go_sem, t0, t1, t2]
    · rw [HE.out]
      exact arrK.ownSet (arrK.ownSet (arrK.ownSet HO5.out (fun b hb => HNR.out b hb) _) (fun b hb => HNR.out b hb) _) (fun b hb => HNR.out b hb) _
    · have := HS2.out b hb; have := HB1.out.size; omega
    · exact ((HBQ.out.setCell HRR.out _).setCell HRR.out _).setCell HRR.out _
  have KC := Lib.hid (decide_eq_true hc)
  obtain ⟨j, hj, hjl⟩ := cell_index ha hn
  have HE : Hid (storedF ga gb gr gd x bx br bc (kl, kp) = (x.1.set j (kl, kp), x.2)) := by
    show _ = _
    unfold storedF
    rw [if_pos ⟨ha, hn, hc⟩, hj]
    rfl
  have HJ := Lib.hid hj
  have HJL := Lib.hid hjl
  have hk11 : (kl.length : Int) = 11 := hc.2
  clear ha hn hc hj hjl
  refine (implArrayOk_is ga gb gr gd _ _ true KA.out _ H3.out HF.out).mono ?_
  rintro e w4 ⟨rfl, hb4⟩
  have HBQ : Hid (Below w.heap.size w w4) := HB3.out.trans (hb4.mono HB3.out.size)
  have qq := keep_block hb4 q3 (lt_of_block q3)
  have rr := keep_block hb4 r3 (lt_of_block r3)
  have gg := keep_block hb4 g3 (lt_of_block g3)
  have ll := keep_block hb4 l3 (lt_of_block l3)
  have mm := keep_block hb4 m3 (lt_of_block m3)
  have HK4 := Lib.hid (intsK.below HK3.out hb4)
  have HO4 := Lib.hid (arrK.ownBelow HO3.out hb4)
  clear hb4 g3 l3 m3 p3 q3 r3 x0 x1 x2 x3 y0 y1 y2 z0 z1 z2
  obtain ⟨x0, x1, x2, x3⟩ := cells4 gg
  obtain ⟨y0, y1, y2⟩ := cells3 ll
  go_wp2_with fail
  refine (implAddrOk_is ga gb gr gd bx br bc true KN.out _).mono ?_
  rintro e w5 ⟨rfl, hb5⟩
  have HBR : Hid (Below w.heap.size w w5) := HBQ.out.trans (hb5.mono HBQ.out.size)
  have q5 := keep_block hb5 qq (lt_of_block qq)
  have r5 := keep_block hb5 rr (lt_of_block rr)
  have g5 := keep_block hb5 gg (lt_of_block gg)
  have l5 := keep_block hb5 ll (lt_of_block ll)
  have m5 := keep_block hb5 mm (lt_of_block mm)
  have HK5 := Lib.hid (intsK.below HK4.out hb5)
  have HO5 := Lib.hid (arrK.ownBelow HO4.out hb5)
  clear HBQ HO4 HK4 qq rr gg ll mm hb5 x0 x1 x2 x3 y0 y1 y2
  have HBQ := HBR
  have qq := q5
  have rr := r5
  have gg := g5
  have ll := l5
  have mm := m5
  clear HBR q5 r5 g5 l5 m5
  obtain ⟨c0', c1'⟩ := cells2 mm
  go_wp2_with fail
  refine (implSym11_is HK5.out true KC.out).mono ?_
  rintro e w6 ⟨rfl, hb6⟩
  have HBR : Hid (Below w.heap.size w w6) := HBQ.out.trans (hb6.mono HBQ.out.size)
  have q6 := keep_block hb6 qq (lt_of_block qq)
  have r6 := keep_block hb6 rr (lt_of_block rr)
  have g6 := keep_block hb6 gg (lt_of_block gg)
  have l6 := keep_block hb6 ll (lt_of_block ll)
  have m6 := keep_block hb6 mm (lt_of_block mm)
  have HK6 := Lib.hid (intsK.below HK5.out hb6)
  have HO6 := Lib.hid (arrK.ownBelow HO5.out hb6)
  clear HBQ HO5 HK5 qq rr gg ll mm hb6 c0' c1'
  have HBQ := HBR
  have HO5 := HO6
  have HK5 := HK6
  have qq := q6
  have rr := r6
  have gg := g6
  have ll := l6
  have mm := m6
  clear HBR q6 r6 g6 l6 m6 HK6 HO6
  obtain ⟨gA, oA, nA, cA, _, _, eA, hjn, hnm, hgA, _, _, _, _⟩ := cell_put HO5.out HJL.out
  cases eA
  unfold maxLen at hnm
  go_wp2_with fail
  refine wp_region_float (A := ?A) [.h, .h, .h, .h, .t, .h, .t, .t, .e] (by kernel_rfl) (by kernel_rfl) (fun q => q.heap[w2.heap.size]? = some (.cells #[.slice (some ⟨gA, oA, none⟩) m0 k0, .slice d1 m1 k1, .slice d2 m2 k2] 31 (0, 0)) ∧ q.heap[w.heap.size]? = some (.cells #[.int .i64 ga, .int .i64 gb, .int .i64 gr, .int .i64 gd] 25 (0, 0)) ∧ q.heap[w.heap.size + 1 + 1]? = some (.cells #[.int .i64 bx, .int .i64 br, .int .i64 bc] 37 (0, 0)) ∧ q.heap[w.heap.size + 1 + 1 + 1]? = some (.cells #[.slice ka kn kc, .bool kp] 42 (0, 0))) ?hC ?hH ?hT
  case hC => exact ⟨qq, gg, ll, mm⟩
  case hH =>
    intro q hq
    obtain ⟨h0, h1, h2, h3⟩ := hq
    obtain ⟨p0, p1, p2⟩ := cells3 h0
    obtain ⟨x0, x1, x2, x3⟩ := cells4 h1
    obtain ⟨y0, y1, y2⟩ := cells3 h2
    obtain ⟨k0', k1'⟩ := cells2 h3
    have z0 := fun t : Same q => t.cell p0
    have z1 := fun t : Same q => t.cell x0
    have z2 := fun t : Same q => t.cell x1
    have z3 := fun t : Same q => t.cell x2
    have z4 := fun t : Same q => t.cell x3
    have z5 := fun t : Same q => t.cell y0
    have z6 := fun t : Same q => t.cell y1
    have z7 := fun t : Same q => t.cell y2
    have z8 := fun t : Same q => t.cell k0'
    have z9 := fun t : Same q => t.cell k1'
    simp only [headsOf]
    repeat (go_big_quiet_step (fail))
    refine wpQuiet_nil ?_
    exact rfl
  case hT =>
    simp only [chainT]
    have hdr : Below w6.heap.size w6 w6.drew := ⟨rfl, rfl, rfl, Nat.le_refl _, fun _ _ => rfl⟩
    have HOD : Hid (arrK.own w6.drew T2 _ x) := arrK.ownBelow HO5.out hdr
    have HKD : Hid (intsK.rd w6.drew [.slice ka kn kc] kl) := intsK.below HK5.out hdr
    have HBD : Hid (Below w.heap.size w w6.drew) := HBQ.out.trans (hdr.mono HBQ.out.size)
    have qd : w6.drew.heap[w2.heap.size]? = _ := qq
    have gd' : w6.drew.heap[w.heap.size]? = _ := gg
    have ld : w6.drew.heap[w.heap.size + 1 + 1]? = _ := ll
    have md : w6.drew.heap[w.heap.size + 1 + 1 + 1]? = _ := mm
    have rd : w6.drew.heap[w.heap.size + 1 + 1 + 1 + 1]? = _ := rr
    clear qq gg ll mm rr HO5 HK5 HBQ hdr
    generalize w6.drew = w6d at *
    go_wp2_with fail
    refine (implIndex_is ga gb gr gd bx br bc (j : Int) HJ.out _).mono ?_
    rintro e w7 ⟨rfl, hb7⟩
    have q7 := keep_block hb7 qd (lt_of_block qd)
    have g7 := keep_block hb7 gd' (lt_of_block gd')
    have l7 := keep_block hb7 ld (lt_of_block ld)
    have m7 := keep_block hb7 md (lt_of_block md)
    have r7 := keep_block hb7 rd (lt_of_block rd)
    have HO7 := Lib.hid (arrK.ownBelow HOD.out hb7)
    have HK7 := Lib.hid (intsK.below HKD.out hb7)
    have HB7 : Hid (Below w.heap.size w w7) := HBD.out.trans (hb7.mono HBD.out.size)
    clear HOD HKD HBD qd gd' ld md rd hb7
    go_wp2_with fail
    refine stepQ_normal ⟨⟨q7, g7, l7, m7⟩, ?_⟩
    go_wp2_with fail
    refine (implCell_k (p := kp) HK7.out (by omega)).mono ?_
    rintro e w8 ⟨cs8, T8, rfl, own8, hT8, hb8⟩
    obtain ⟨ya, yn, yc, rfl, hi8⟩ := cell_own own8
    have q8 := keep_block hb8 q7 (lt_of_block q7)
    have g8 := keep_block hb8 g7 (lt_of_block g7)
    have l8 := keep_block hb8 l7 (lt_of_block l7)
    have m8 := keep_block hb8 m7 (lt_of_block m7)
    have r8 := keep_block hb8 r7 (lt_of_block r7)
    have HO8 := Lib.hid (arrK.ownBelow HO7.out hb8)
    have HB8 : Hid (Below w.heap.size w w8) := HB7.out.trans (hb8.mono HB7.out.size)
    have hlt8 : ∀ b ∈ T2, b < w7.heap.size := fun b hb => arrK.lt HO7.out b hb
    obtain ⟨_, _, _, _, _, _, e8, _, _, _, ⟨o8, hc8⟩, ⟨o8', hc8'⟩, hf8, hput⟩ := cell_put HO8.out HJL.out
    cases e8
    obtain ⟨S9, hS9, own9⟩ := hput T8 ya yn yc (kl, kp) kp own8 (fun b hb hb' => by have := hT8 b hb; have := hlt8 b hb'; omega)
    have f80 := hf8 (oA + j * 2)
    have f81 := hf8 (oA + j * 2 + 1)
    obtain ⟨w9, hw9⟩ : ∃ q, (w8.setCell ⟨gA, oA + j * 2, none⟩ (.slice ya yn yc)).setCell ⟨gA, oA + j * 2 + 1, none⟩ (.bool kp) = q := ⟨_, rfl⟩
    rw [hw9] at own9
    have HO6 := Lib.hid own9
    have HB9 : Hid (Below w.heap.size w w9) := hw9 ▸ (HB8.out.setCell (by have := HS2.out gA hgA; have := HB1.out.size; show _ ≤ gA; omega) _).setCell (by have := HS2.out gA hgA; have := HB1.out.size; show _ ≤ gA; omega) _
    have q9 : w9.heap[w2.heap.size]? = _ := hw9 ▸ keep_set (keep_set q8 (fun e => HNP.out (e ▸ hgA))) (fun e => HNP.out (e ▸ hgA))
    have r9 : w9.heap[w.heap.size + 1 + 1 + 1 + 1]? = _ := hw9 ▸ keep_set (keep_set r8 (fun e => HNR.out gA hgA e.symm)) (fun e => HNR.out gA hgA e.symm)
    have HS9 : Hid (∀ b ∈ S9, w1.heap.size ≤ b) := fun b hb => by
      rcases hS9 b hb with h | h
      · exact HS2.out b h
      · have := hT8 b h; have := HS2.out gA hgA; have := hlt8 gA hgA; omega
    have HNR9 : Hid (∀ b ∈ S9, b ≠ w.heap.size + 1 + 1 + 1 + 1) := fun b hb => by
      rcases hS9 b hb with h | h
      · exact HNR.out b h
      · have := hT8 b h; have := lt_of_block r7; intro e; omega
    clear hi8 own8 hT8 hb8 hlt8 hput hf8 own9 hS9 HO7 HO8 HK7 HB7 HB8 q7 g7 l7 m7 r7
    go_wp2_with fail
    refine stepQ_normal ⟨⟨q8, g8, l8, m8⟩, ?_⟩
    go_wp2_with fail
    refine stepQ_normal ⟨⟨q8, g8, l8, m8⟩, ?_⟩
    go_wp2_with fail
    refine stepQ_normal ⟨trivial, ?_⟩
    have qq := q9
    have rr := r9
    have HBQ := HB9
    clear q8 g8 l8 m8 r8 q9 r9 hc8 hc8' f80 f81 HB9
    obtain ⟨v0, v1, v2⟩ := cells3 rr
    have f0 := thawed rr 0
    have f1 := thawed rr 1
    have f2 := thawed rr 2
    obtain ⟨u0, u1, u2⟩ := cells3 qq
    have o5 := set_cells (set_cells (set_cells rr 0 (.slice (some ⟨gA, oA, none⟩) m0 k0)) 1 (.slice d1 m1 k1)) 2 (.slice d2 m2 k2)
    obtain ⟨t0, t1, t2⟩ := cells3 o5
    go_wp2_with fail
    (try simp only [Exit.inBlock, Exit.then])
    refine bodyPost_ret (v := .agg #[.slice (some ⟨gA, oA, none⟩) m0 k0, .slice d1 m1 k1, .slice d2 m2 k2]) ?_ rfl ⟨_, S9, rfl, ?_, fun b hb => ?_, ?_⟩
    · simp [results, Try.results17, go_sem, t0, t1, t2]
    · rw [HE.out]
      exact arrK.ownSet (arrK.ownSet (arrK.ownSet HO6.out (fun b hb => HNR9.out b hb) _) (fun b hb => HNR9.out b hb) _) (fun b hb => HNR9.out b hb) _
    · have := HS9.out b hb; have := HB1.out.size; omega
    · exact ((HBQ.out.setCell HRR.out _).setCell HRR.out _).setCell HRR.out _

end Go.Proofs.Ytfpfgaifhmgpiaa

namespace Go.Proofs.Ytfpfgaifhmgpiaa
open Go.RowKit

set_option linter.unusedVariables false

theorem fnStored_walk (a0 : Option Addr) (len cap : Nat) (zs : List Int) (w : World) (hr : IsRow .u8 w a0 len cap zs) :
    Calls Try.prog 3 #[.slice a0 len cap] w fun e w' => e = .returned (.bool true) ∧ Below w.heap.size w w' := fnStored_of (Lib.hid implStoreCell_is) (Lib.hid implLoadCell_is) a0 len cap zs w hr

end Go.Proofs.Ytfpfgaifhmgpiaa
