/-
  Texts of one proof, merged: CodH, CodJ.
-/
import Derived.Test.YtgmlifhiefknbaaDoorQR12B20
import Derived.Maps.Own
import Derived.Maps.OwnSet
import Derived.Maps.RangeWalk
import Derived.Maps.Views
namespace Go.Proofs.YtgmlifhiefknbaaDoor
open Go.RowKit Go.Maps Go.PlainAid

set_option linter.unusedVariables false

/-- The map holds of the places below k, and of no other key, these numbers. -/
def CandD (f : Nat → Int) (k : Nat) (D : DataW Unit) : Prop :=
  IsMap D ∧ (∀ t : Int, Maps.has D (.int .i64 t) = true → ∃ j : Nat, j < k ∧ t = (j : Int)) ∧ ∀ j, j < k → Maps.has D (.int .i64 (j : Int)) = true ∧ ∀ z, D.atKey (.int .i64 (j : Int)) z = .lit (.int .i64 (f j))

theorem candD_start (f : Nat → Int) : CandD f 0 (.map []) := ⟨isMap_empty, (fun t h => by cases h), fun j h => absurd h (Nat.not_lt_zero _)⟩

theorem candD_step {f : Nat → Int} {k : Nat} {D : DataW Unit} (h : CandD f k D) {v : Int} (hv : f k = v) : CandD f (k + 1) (D.put (.int .i64 (k : Int)) (.lit (.int .i64 v))) := by
  have hk : WideAt.IsKeyLit (.int .i64 (k : Int)) := trivial
  refine ⟨h.1.put _ _, fun t ht => ?_, fun j hj => ?_⟩
  · by_cases e : t = (k : Int)
    · exact ⟨k, by omega, e⟩
    · rw [has_put_other (fun q => e (by cases q; rfl))] at ht
      obtain ⟨j, hj, ht⟩ := h.2.1 t ht
      exact ⟨j, by omega, ht⟩
  · by_cases e : j = k
    · subst e
      exact ⟨has_put_same h.1 hk _, fun z => by rw [atKey_put_same h.1 hk, hv]⟩
    · have hne : (Lit.int .i64 (j : Int)) ≠ .int .i64 (k : Int) := fun q => e (by injection q with _ q; omega)
      obtain ⟨h1, h2⟩ := h.2.2 j (by omega)
      exact ⟨by rw [has_put_other hne]; exact h1, fun z => by rw [atKey_put_other hne]; exact h2 z⟩

theorem below_grown {w w' : World} (h : Below w.heap.size w w') : w.grownBy w' none := ⟨h.os, h.tape, h.output, h.size, fun i hi _ => h.block i hi⟩

set_option maxHeartbeats 4000000 in
set_option maxRecDepth 100000 in
theorem implCands_is (g o c : Nat) (l : List Int) (u : List Nat) (hu : nats l = u) (hok : SymOk l 11) (hc : 11 ≤ c) (s : Nat) (hs : syn 0 u = s) (w : World) (hr : RowI w (some ⟨g, o, none⟩) l) :
    Calls Tryd.prog 32 #[.slice (some ⟨g, o, none⟩) 11 c] w fun e w' => ∃ mb D, e = .returned (.map (some mb)) ∧ w'.ownsMap (H := Unit) Tryd.prog 3 (plainElem Tryd.prog 3) mb 11 D ∧ CandD (fun j => ((u.getD j 0 ^^^ s : Nat) : Int)) 11 D ∧ w.heap.size ≤ mb ∧ Below w.heap.size w w' := by
  have hlen : l.length = 11 := by have := hok.2; omega
  obtain ⟨sl, hsl⟩ : ∃ s, syns l = s := ⟨_, rfl⟩
  have hs3 : sl.length = 3 := by rw [← hsl]; unfold syns; rw [if_pos hok]; rfl
  have hs0 : sl.getD 0 0 = (s : Int) := by rw [← hsl, ← hs, ← hu]; unfold syns; rw [if_pos hok]; rfl
  have hult : Lt16 u := by rw [← hu]; exact nats_lt hok.1
  have hul : u.length = 11 := by rw [← hu, nats_length]; exact hlen
  have HSL := Lib.hid hsl
  have HS3 := Lib.hid hs3
  have HS0 := Lib.hid hs0
  have HN := Lib.hid hlen
  have HA := Lib.hid hr
  have HLT := Lib.hid hult
  have HSV : Hid (s < 16) := by show _ < _; rw [← hs]; exact syn_lt 0 hult
  have HGET : Hid (∀ j, j < 11 → l.getD j 0 = ((u.getD j 0 : Nat) : Int)) := fun j hj => by rw [nats_getD hok.1 (by omega), hu]
  have hmm := @run_makeMap Tryd.prog
  clear hsl hs3 hs0 hu hok hs hlen hult hul hr
  go_enter Tryd.func32, Tryd.ntmps32
  go_wp2_with fail
  refine (implSyndromes_is (some ⟨g, o, none⟩) 11 c l 3 (by decide) sl HSL.out HS3.out HN.out (by decide) hc _ HA.out).mono ?_
  rintro e w2 ⟨sa, sc, rfl, _, own2, hb2⟩
  obtain ⟨sg, so, rfl, ce, _, _, _⟩ := own2.at (k := 0) (by rw [HS3.out]; decide)
  rw [HS0.out, Nat.add_zero] at ce
  have HB2 := Lib.hid hb2
  have HA2 := Lib.hid (HA.out.below hb2)
  clear own2 hb2
  have hb3 : Below w2.heap.size w2 (w2.alloc (.map #[] 0)) := (Below.refl _ _).alloc (Nat.le_refl _) _
  have G3 : Hid ((w2.alloc (.map #[] 0)).ownsMap (H := Unit) Tryd.prog 3 (plainElem Tryd.prog 3) w2.heap.size 0 (.map [])) := World.ownsMap_made _ _ _ _
  have HB3 : Hid (Below w.heap.size w (w2.alloc (.map #[] 0))) := HB2.out.trans (hb3.mono HB2.out.size)
  have HA3 := Lib.hid (HA2.out.below hb3)
  have HMB : Hid (w.heap.size ≤ w2.heap.size) := HB2.out.size
  go_wp2_with fail
  clear ce hb3
  generalize w2.alloc (.map #[] 0) = w3 at G3 HB3 HA3 ⊢
  generalize w2.heap.size = mb at G3 HMB ⊢
  go_loopw [14] (fun i wr => ∃ k : Nat, ∃ D : DataW Unit, k ≤ 11 ∧ i = .int .i64 k ∧ wr.ownsMap (H := Unit) Tryd.prog 3 (plainElem Tryd.prog 3) mb k D ∧ CandD (fun j => ((u.getD j 0 ^^^ s : Nat) : Int)) k D ∧ Below w.heap.size w wr) (fun i _ => 11 - (intOf i).toNat)
  case atStart => exact ⟨0, _, Nat.zero_le _, rfl, G3.out, candD_start _, HB3.out⟩
  case round =>
    obtain ⟨k, D, hk, rfl, hown, hD, hbr⟩ := hrel
    have HBR := Lib.hid hbr
    have HD := Lib.hid hD
    have HO := Lib.hid hown
    clear hD hbr hown
    by_cases hlt : k < 11
    · obtain ⟨g', o', he, hca⟩ := (HA.out.below HBR.out).at (k := k) (by rw [HN.out]; exact hlt)
      cases he
      rw [HGET.out k hlt] at hca
      have hkk : (k : Int) < 11 := by omega
      have HX : Hid (gfAdd ((u.getD k 0 : Nat) : Int) (s : Int) = ((u.getD k 0 ^^^ s : Nat) : Int)) := gfAdd_nat (getDn_lt HLT.out k) HSV.out
      have hy16 : u.getD k 0 ^^^ s < 16 := xor_lt (getDn_lt HLT.out k) HSV.out
      have HD2 := Lib.hid (candD_step HD.out (v := ((u.getD k 0 ^^^ s : Nat) : Int)) rfl)
      generalize u.getD k 0 ^^^ s = y at HX hy16 HD2
      generalize u.getD k 0 = x at HX hca
      have hwy : (Lit.int .i64 (y : Int)).wf = true := WalkArith.wf_i64 (by omega)
      have hkey := keyOf_int_mk Tryd.underlying3 (a := (k : Int)) (WalkArith.wf_i64 (by omega))
      go_wp2_with fail
      refine (implGfAdd_is _ _ _ HX.out _).mono ?_
      rintro e w4 ⟨rfl, hb4⟩
      have HO4 : Hid (w4.ownsMap (H := Unit) Tryd.prog 3 (plainElem Tryd.prog 3) mb k D) := HO.out.kept (below_grown hb4) (by simp)
      have HB4 : Hid (Below w.heap.size w w4) := HBR.out.trans (hb4.mono HBR.out.size)
      clear hb4 hca HBR HO
      go_wp2_with (at_mapUpdate; refine wpList_mapUpdate_own _ rfl _ _ _ 40 rfl 3 3 (int_keyed Tryd.underlying3) Tryd.underlying40 _ mb k _ rfl HO4.out (by unfold maxLen; omega) _ _ _ rfl rfl hkey _ [] (plainElem_int Tryd.underlying3 hwy) ?_; intro w5 hown5 hgrow5)
      go_roundw
      case rel => exact ⟨k + 1, _, by omega, by go_num, hown5, HD2.out, HB4.out.grown hgrow5 HB4.out.size (fun j hj => by cases hj; exact HMB.out)⟩
      case measure => simp [intOf]; omega
    · obtain rfl : k = 11 := by omega
      (try rw [show ((11 : Nat) : Int) = 11 from rfl])
      go_wp2_with fail
      go_ret
      exact ⟨mb, D, rfl, HO.out, HD.out, HMB.out, HBR.out⟩

end Go.Proofs.YtgmlifhiefknbaaDoor

namespace Go.Proofs.YtgmlifhiefknbaaDoor
open Go.RowKit Go.Maps Go.PlainAid

set_option linter.unusedVariables false

theorem nats_set (l : List Int) (k : Nat) (x : Nat) : nats (l.set k (x : Int)) = (nats l).set k x := by
  unfold nats
  rw [List.map_set]
  rfl

theorem symOk_set {l : List Int} {m : Int} (h : SymOk l m) (k : Nat) {x : Nat} (hx : x < 16) : SymOk (l.set k (x : Int)) m := by
  refine ⟨fun v hv => ?_, by rw [List.length_set]; exact h.2⟩
  rcases List.mem_or_eq_of_mem_set hv with h1 | h1
  · exact h.1 v h1
  · subst h1
    unfold El
    omega

theorem setCell_grown (w : World) (p : Addr) (v : Value) : w.grownBy (w.setCell p v) (some p.block) :=
  ⟨rfl, rfl, rfl, by simp, fun i hi hne => Below.heap_setCell _ _ _ _ (fun e => hne (by rw [e]))⟩

theorem OwnJ.grownK {B n c : Nat} {a : Option Addr} {l : List Int} {w w' : World} {row : Option Nat} (h : OwnJ B (.slice a n c) l w) (hg : w.grownBy w' row) (hne : ∀ x, a = some x → some x.block ≠ row) : OwnJ B (.slice a n c) l w' :=
  h.same (fun x hx => hg.block _ (h.lo x hx).2 (hne x hx))

theorem ownJ_at0 {B n c g : Nat} {l : List Int} {w : World} (h : OwnJ B (.slice (some ⟨g, 0, none⟩) n c) l w) {k : Nat} (hk : k < l.length) :
    w.cell? ⟨g, k, none⟩ = some (.int .i64 (l.getD k 0)) ∧ w.frozen? ⟨g, k, none⟩ = false ∧ B ≤ g ∧ g < w.heap.size := by
  obtain ⟨g', o, e, h1, h2, h3, h4⟩ := h.at hk
  cases e
  rw [Nat.zero_add] at h1 h2
  exact ⟨h1, h2, h3, h4⟩

theorem ownJ_stored0 {B n c g : Nat} {l : List Int} {w : World} (h : OwnJ B (.slice (some ⟨g, 0, none⟩) n c) l w) (hl : l.length = n) {k : Nat} (hk : k < n) (x : Int) : OwnJ B (.slice (some ⟨g, 0, none⟩) n c) (l.set k x) (w.setCell ⟨g, k, none⟩ (.int .i64 x)) := by
  have := h.stored hl hk x
  rwa [Nat.zero_add] at this

set_option maxHeartbeats 8000000 in
set_option maxRecDepth 100000 in
theorem implCorrectWord_is : ICorrectWord := by
  intro a n c l k hk v hv hk2 hn hl hc w h
  have HN := Lib.hid hn
  have HA := Lib.hid h
  by_cases hok : SymOk l 11
  case neg =>
    have KA := Lib.hid (decide_eq_false hok)
    obtain rfl : v = ([], 2, -1) := by rw [← hv]; exact if_neg hok
    obtain rfl : k = 0 := hk2.symm
    clear hok hv hn h hk2
    go_enter Tryd.func13, Tryd.ntmps13
    go_wp2_with fail
    refine (implSymbolsOk_is a n c l 11 false KA.out HN.out hl hc _ HA.out).mono ?_
    rintro e w2 ⟨rfl, hb2⟩
    have HB2 := Lib.hid hb2
    clear hb2
    go_wp2_with fail
    refine bodyPost_ret (v := .tuple #[.slice none 0 0, .int .i64 2, .int .i64 (-1)]) (by simp [results, Tryd.results13, go_sem]) rfl ?_
    exact ⟨none, 0, rfl, Nat.le_refl _, ownJ_nil _ _, HB2.out⟩
  have KA := Lib.hid (decide_eq_true hok)
  obtain rfl : n = 11 := by have := hok.2; omega
  obtain ⟨g, o, rfl, _⟩ := h.at (k := 0) (by rw [hn]; omega)
  obtain ⟨u, hu⟩ : ∃ u, nats l = u := ⟨_, rfl⟩
  have hult : Lt16 u := by rw [← hu]; exact nats_lt hok.1
  have hul : u.length = 11 := by rw [← hu, nats_length]; exact hn
  have hcor : corW l = (ints (correct u).1, (correct u).2.1, (correct u).2.2) := by rw [← hu]; exact if_pos hok
  have hint : ints u = l := by rw [← hu]; exact ints_nats hok.1
  have HOK := Lib.hid hok
  have HU := Lib.hid hu
  have HGET : Hid (∀ j, j < 11 → l.getD j 0 = ((u.getD j 0 : Nat) : Int)) := fun j hj => by rw [nats_getD hok.1 (by omega), hu]
  have hk11 : k = 11 := by
    rw [← hk2, ← hv, hcor, ints_length, ← hul]
    unfold correct
    split
    · rfl
    · split
      · rfl
      · exact List.length_set ..
  subst hk11
  by_cases hz : Zero3 u
  case pos =>
    have HG : Hid (decide (goodW l) = true) := decide_eq_true ⟨hok, by rw [hu]; exact hz⟩
    obtain rfl : v = (l, 0, -1) := by rw [← hv, hcor, correct_none hz, hint]
    clear hok hv hn h hk2 hu hult hul hcor hint hz
    go_enter Tryd.func13, Tryd.ntmps13
    go_wp2_with fail
    refine (implSymbolsOk_is (some ⟨g, o, none⟩) 11 c l 11 true KA.out HN.out hl hc _ HA.out).mono ?_
    rintro e w2 ⟨rfl, hb2⟩
    have HB2 := Lib.hid hb2
    have HA2 := Lib.hid (HA.out.below hb2)
    clear hb2
    go_wp2_with fail
    refine (implCloneI_is (some ⟨g, o, none⟩) 11 c l HN.out (by omega) (fun h => by cases h) _ HA2.out).mono ?_
    rintro e w3 ⟨aa, cc, rfl, own3, hb3⟩
    have HB3 : Hid (Below w.heap.size w w3) := HB2.out.trans (hb3.mono HB2.out.size)
    have HS2 := Lib.hid HB2.out.size
    rw [HN.out] at own3
    have HO3 := Lib.hid own3
    have HC3 : Hid (11 ≤ cc) := own3.cap_le HN.out
    rw [HN.out]
    clear own3 hb3
    go_wp2_with fail
    refine (implWordOk_is aa 11 cc l true HG.out HN.out (by decide) HC3.out _ HO3.out.row).mono ?_
    rintro e w4 ⟨rfl, hb4⟩
    have HB4 : Hid (Below w.heap.size w w4) := HB3.out.trans (hb4.mono HB3.out.size)
    have HO4 : Hid (OwnJ w2.heap.size (.slice aa 11 cc) l w4) := (HO3.out.toJ HN.out).below hb4
    clear hb4
    go_wp2_with fail
    refine bodyPost_ret (v := .tuple #[.slice aa 11 cc, .int .i64 0, .int .i64 (-1)]) (by simp [results, Tryd.results13, go_sem]) rfl ?_
    exact ⟨aa, cc, rfl, HC3.out, HO4.out.mono HS2.out, HB4.out⟩
  have HG : Hid (decide (goodW l) = false) := decide_eq_false (fun q => hz (by rw [← hu]; exact q.2))
  obtain ⟨s, hs⟩ : ∃ s, syn 0 u = s := ⟨_, rfl⟩
  have HS := Lib.hid hs
  have HSV : Hid (s < 16) := by show _ < _; rw [← hs]; exact syn_lt 0 hult
  have HHIT : Hid (∀ j, j < 11 → Zero3 (u.set j (u.getD j 0 ^^^ s)) → v = (l.set j ((u.getD j 0 ^^^ s : Nat) : Int), 1, (j : Int))) := fun j hj hz3 => by
    rw [← hv, hcor]
    rw [← hs] at hz3 ⊢
    rw [correct_at hul hult hz hj hz3, ints_set, hint]
  have HMISS : Hid ((∀ j, j < 11 → ¬ Zero3 (u.set j (u.getD j 0 ^^^ s))) → v = (l, 2, -1)) := fun hz3 => by
    rw [← hv, hcor, correct_lost hul hult hz (fun j hj => by rw [hs]; exact hz3 j hj), hint]
  have HLT := Lib.hid hult
  have hgw : g < w.heap.size := by
    obtain ⟨_, _, e, hc⟩ := h.at (k := 0) (by rw [hn]; omega)
    cases e
    exact World.block_lt_of_cell? _ _ hc
  clear hok hv hn h hk2 hu hult hul hcor hint hz hs
  go_enter Tryd.func13, Tryd.ntmps13
  go_wp2_with fail
  refine (implSymbolsOk_is (some ⟨g, o, none⟩) 11 c l 11 true KA.out HN.out hl hc _ HA.out).mono ?_
  rintro e w2 ⟨rfl, hb2⟩
  have HB2 := Lib.hid hb2
  have HA2 := Lib.hid (HA.out.below hb2)
  clear hb2
  go_wp2_with fail
  refine (implCloneI_is (some ⟨g, o, none⟩) 11 c l HN.out (by omega) (fun h => by cases h) _ HA2.out).mono ?_
  rintro e w3 ⟨aa, cc, rfl, own3, hb3⟩
  have HB3 : Hid (Below w.heap.size w w3) := HB2.out.trans (hb3.mono HB2.out.size)
  have HS2 := Lib.hid HB2.out.size
  rw [HN.out] at own3
  obtain ⟨gC, rfl, _, _, _, _⟩ := own3.at (k := 0) (by rw [HN.out]; decide)
  have hgC : w2.heap.size ≤ gC ∧ gC < w3.heap.size := (own3.toJ HN.out).lo _ rfl
  have HO3 := Lib.hid own3
  have HC3 : Hid (11 ≤ cc) := own3.cap_le HN.out
  have HGC : Hid (w.heap.size ≤ gC) := Nat.le_trans HS2.out hgC.1
  have HGL := Lib.hid hgC.2
  rw [HN.out]
  clear own3 hb3 hgC HA2 HB2
  go_wp2_with fail
  refine (implWordOk_is (some ⟨gC, 0, none⟩) 11 cc l false HG.out HN.out (by decide) HC3.out _ HO3.out.row).mono ?_
  rintro e w4 ⟨rfl, hb4⟩
  have HB4 : Hid (Below w.heap.size w w4) := HB3.out.trans (hb4.mono HB3.out.size)
  have HO4 : Hid (OwnJ w.heap.size (.slice (some ⟨gC, 0, none⟩) 11 cc) l w4) := ((HO3.out.toJ HN.out).below hb4).mono HS2.out
  have HGL4 : Hid (gC < w4.heap.size) := Nat.lt_of_lt_of_le HGL.out hb4.size
  clear hb4 HO3 HB3 HS2
  go_wp2_with fail
  refine (implCands_is g o c l u HU.out HOK.out hc s HS.out _ (HA.out.below HB4.out)).mono ?_
  rintro e w5 ⟨mb, D, rfl, hown5, hD, hmb, hb5⟩
  have HB5 : Hid (Below w.heap.size w w5) := HB4.out.trans (hb5.mono HB4.out.size)
  have HO5 := Lib.hid (HO4.out.below hb5)
  have HD := Lib.hid hD
  have hgm : gC ≠ mb := by have := HGL4.out; omega
  have hgr : gC < w5.heap.size := Nat.lt_of_lt_of_le HGL4.out hb5.size
  have hrw : w.heap.size ≤ w5.heap.size := HB5.out.size
  clear hb5 HO4 HB4 hD HGL4 HGL
  go_wp2_with (at_range; refine wpList_range_own _ rfl _ 40 rfl 3 3 (int_keyed Tryd.underlying3) Tryd.underlying40 _ mb 11 D rfl hown5 ?_; intro w6 hrg6 hg6 hs6)
  go_frame
  have HO6 := Lib.hid (HO5.out.grownK hg6 (fun x hx => by simp))
  have HB6 : Hid (Below w.heap.size w w6) := HB5.out.grown hg6 HB5.out.size (fun j hj => by cases hj)
  clear hg6 hs6 hown5 HO5 HB5
  generalize w5.heap.size = rr at hrg6 hgr hrw ⊢
  go_loopw [6] (fun _ wr => ∃ (left : Lit → Bool) (cnt : Nat), wr.ranges (H := Unit) Tryd.prog 3 (plainElem Tryd.prog 3) mb rr 11 D left cnt ∧ (∀ kl, left kl = true → Maps.has D kl = true) ∧ (∀ j : Nat, j < 11 → left (.int .i64 (j : Int)) = false → ¬ Zero3 (u.set j (u.getD j 0 ^^^ s))) ∧ OwnJ w.heap.size (.slice (some ⟨gC, 0, none⟩) 11 cc) l wr ∧ Below w.heap.size w wr) (fun _ wr => wr.rangeLeft mb rr)
  case atStart => exact ⟨_, _, hrg6, (fun _ h => h), (fun j hj h => by rw [(HD.out.2.2 j hj).1] at h; cases h), HO6.out, HB6.out⟩
  case round =>
    obtain ⟨left, cnt, hrg, hsub, hmiss, hown, hbr⟩ := hrel
    have HSUB := Lib.hid hsub
    have HMI := Lib.hid hmiss
    have HO := Lib.hid hown
    have HBR := Lib.hid hbr
    clear hsub hmiss hown hbr hrg6 HO6 HB6
    go_wp2_with (at_next; refine wpList_next_ranges_ii _ rfl _ rfl 3 3 .i64 .i64 (int_keyed Tryd.underlying3) Tryd.underlying3 Tryd.underlying3 mb rr 11 _ _ _ rfl hrg ?_ ?_)
    · intro hc0 hl0
      have HV := Lib.hid (HMISS.out (fun j hj => HMI.out j hj (hl0 _)))
      clear hl0
      go_wp2_with fail
      refine bodyPost_ret (v := .tuple #[.slice (some ⟨gC, 0, none⟩) 11 cc, .int .i64 2, .int .i64 (-1)]) (by simp [results, Tryd.results13, go_sem]) rfl ?_
      rw [HV.out]
      exact ⟨_, cc, rfl, HC3.out, HO.out, HBR.out⟩
    · intro x y w7 cnt7 hwx hwc hlx hat hrg7 hlt hg7 hs7 hen
      obtain ⟨j, hj, rfl⟩ := HD.out.2.1 x (HSUB.out _ hlx)
      obtain rfl : y = ((u.getD j 0 ^^^ s : Nat) : Int) := by
        have h1 := (HD.out.2.2 j hj).2 (.lit (.int .i64 0))
        have h2 := hat (.lit (.int .i64 0))
        rw [h1] at h2
        injection h2 with h2
        injection h2 with _ h2
        exact h2.symm
      have hy16 : u.getD j 0 ^^^ s < 16 := xor_lt (getDn_lt HLT.out j) HSV.out
      have HO7 := Lib.hid (HO.out.grownK hg7 (fun x hx => by cases hx; exact fun e => by have := Option.some.inj e; have h2 : gC = rr := this; omega))
      have HB7 : Hid (Below w.heap.size w w7) := HBR.out.grown hg7 HBR.out.size (fun j hj => by cases hj; exact hrw)
      have HH := Lib.hid (HHIT.out j hj)
      obtain ⟨zc, hzc⟩ : ∃ z, z = Zero3 (u.set j (u.getD j 0 ^^^ s)) := ⟨_, rfl⟩
      have HZC := Lib.hid hzc
      rw [← hzc] at HH
      have HNS : Hid (nats (l.set j ((u.getD j 0 ^^^ s : Nat) : Int)) = u.set j (u.getD j 0 ^^^ s)) := by show _ = _; rw [nats_set, HU.out]
      have HSO := Lib.hid (symOk_set HOK.out j hy16)
      have HGO : Hid (goodW (l.set j ((u.getD j 0 ^^^ s : Nat) : Int)) ↔ zc) := by
        show _ ↔ _
        rw [hzc]
        unfold goodW
        rw [HNS.out]
        exact ⟨fun q => q.2, fun q => ⟨HSO.out, q⟩⟩
      clear hzc HNS HSO hat hlx hg7 hs7 hwc HO HBR
      generalize u.getD j 0 ^^^ s = yy at hen hy16 HH HGO
      have HL2 : Hid ((l.set j (yy : Int)).length = 11) := by show _ = _; rw [List.length_set]; exact HN.out
      obtain ⟨ce, cf, cB, cS⟩ := ownJ_at0 HO7.out (k := j) (by rw [HN.out]; exact hj)
      have R8 := Lib.hid (ownJ_stored0 HO7.out HN.out hj (yy : Int))
      have HB8 : Hid (Below w.heap.size w (w7.setCell ⟨gC, j, none⟩ (.int .i64 (yy : Int)))) := HB7.out.setCell HGC.out _
      have HR8 := Lib.hid (hrg7.kept (setCell_grown w7 ⟨gC, j, none⟩ (.int .i64 (yy : Int))) (fun e => hgm (Option.some.inj e).symm) (fun e => by have := Option.some.inj e; have h2 : rr = gC := this; omega))
      have hj11 : (j : Int) < 11 := by omega
      clear hrg7 HO7 HB7
      go_wp2_with fail
      clear ce cf cB cS hen
      generalize w7.setCell ⟨gC, j, none⟩ (.int .i64 (yy : Int)) = w8 at R8 HB8 HR8 ⊢
      by_cases hz3 : zc
      · have HG2 : Hid (decide (goodW (l.set j (yy : Int))) = true) := decide_eq_true (HGO.out.2 hz3)
        have HV := Lib.hid (HH.out hz3)
        clear HGO HH
        refine (implWordOk_is (some ⟨gC, 0, none⟩) 11 cc (l.set j (yy : Int)) true HG2.out HL2.out (by decide) HC3.out _ R8.out.row).mono ?_
        rintro e w9 ⟨rfl, hb9⟩
        have R9 := Lib.hid (R8.out.below hb9)
        have HB9 : Hid (Below w.heap.size w w9) := HB8.out.trans (hb9.mono HB8.out.size)
        clear hb9 R8 HB8 HR8
        go_wp2_with fail
        refine bodyPost_ret (v := .tuple #[.slice (some ⟨gC, 0, none⟩) 11 cc, .int .i64 1, .int .i64 (j : Int)]) (by simp [results, Tryd.results13, go_sem]) rfl ?_
        rw [HV.out]
        exact ⟨_, cc, rfl, HC3.out, R9.out, HB9.out⟩
      · have HG2 : Hid (decide (goodW (l.set j (yy : Int))) = false) := decide_eq_false (fun q => hz3 (HGO.out.1 q))
        have HNZ : Hid (¬ zc) := hz3
        clear HGO HH hz3
        refine (implWordOk_is (some ⟨gC, 0, none⟩) 11 cc (l.set j (yy : Int)) false HG2.out HL2.out (by decide) HC3.out _ R8.out.row).mono ?_
        rintro e w9 ⟨rfl, hb9⟩
        have R9 := Lib.hid (R8.out.below hb9)
        have HB9 : Hid (Below w.heap.size w w9) := HB8.out.trans (hb9.mono HB8.out.size)
        have HR9 := Lib.hid (HR8.out.kept (below_grown hb9) (by simp) (by simp))
        clear hb9 R8 HB8 HR8
        obtain ⟨g', o', he, hca⟩ := (HA.out.below HB9.out).at (k := j) (by rw [HN.out]; exact hj)
        cases he
        have HBACK : Hid ((l.set j (yy : Int)).set j (l.getD j 0) = l) := by
          show _ = _
          rw [List.set_set, List.getD_eq_getElem?_getD, List.getElem?_eq_getElem (show j < l.length by rw [HN.out]; exact hj)]
          apply List.ext_getElem (by simp)
          intro i h1 h2
          rw [List.getElem_set]
          split
          · rename_i h; subst h; rfl
          · rfl
        generalize l.getD j 0 = ov at hca HBACK
        obtain ⟨ce, cf, cB, cS⟩ := ownJ_at0 R9.out (k := j) (by rw [HL2.out]; exact hj)
        have R10 := ownJ_stored0 R9.out HL2.out hj ov
        rw [HBACK.out] at R10
        have HR10 := Lib.hid R10
        have HB10 : Hid (Below w.heap.size w (w9.setCell ⟨gC, j, none⟩ (.int .i64 ov))) := HB9.out.setCell HGC.out _
        have HRR := Lib.hid (HR9.out.kept (setCell_grown w9 ⟨gC, j, none⟩ (.int .i64 ov)) (fun e => hgm (Option.some.inj e).symm) (fun e => by have := Option.some.inj e; have h2 : rr = gC := this; omega))
        clear R10 R9 HB9 HR9 HBACK
        go_wp2_with fail
        go_roundw
        case rel =>
          refine ⟨_, _, HRR.out, fun kl h => ?_, fun i hi h => ?_, HR10.out, HB10.out⟩
          · simp only [Bool.and_eq_true] at h
            exact HSUB.out _ h.1
          · by_cases e : i = j
            · subst e
              rw [← HZC.out]
              exact HNZ.out
            · have hne : (Lit.int .i64 (i : Int)) ≠ .int .i64 (j : Int) := fun q => e (by injection q with _ q; omega)
              rw [Maps.sameKey_ne hne] at h
              exact HMI.out i hi (by simpa using h)
        case measure => rw [HRR.out.left_eq, hrg.left_eq]; exact hlt

end Go.Proofs.YtgmlifhiefknbaaDoor
