/-
  Texts of one proof, merged: CodH, CodJ, LinY.
-/
import Derived.Test.YtpddinflkkcodaaDoorQM139
import Derived.Test.YtpddinflkkcodaaDoorQM1312
import Derived.Test.YtpddinflkkcodaaDoorQM1316
import Derived.Test.YtpddinflkkcodaaDoorQM1320
import Derived.Maps.Own
import Derived.Maps.OwnSet
import Derived.Maps.RangeWalk
import Derived.Maps.Views
namespace Go.Proofs.YtpddinflkkcodaaDoor
open Go.RowKit Go.Maps Go.PlainAid

set_option linter.unusedVariables false

/-- The map holds of the places below k, and of no other key, these numbers. -/
def CandD (f : Nat → Int) (k : Nat) (D : DataW Unit) : Prop :=
  IsMap D ∧ (∀ t : Int, Maps.has D (.int .i64 t) = true → ∃ j : Nat, j < k ∧ t = (j : Int)) ∧ ∀ j, j < k → Maps.has D (.int .i64 (j : Int)) = true ∧ ∀ z, D.atKey (.int .i64 (j : Int)) z = .lit (.int .i64 (f j))

theorem candD_start (f : Nat → Int) : CandD f 0 (.map []) := ⟨isMap_empty, (fun t h => by cases h), fun j h => absurd h (Nat.not_lt_zero _)⟩

theorem candD_step {f : Nat → Int} {k : Nat} {D : DataW Unit} (h : CandD f k D) {v : Int} (hv : f k = v) : CandD f (k + 1) (D.put (.int .i64 (k : Int)) (.lit (.int .i64 v))) := by
  have hk : WideAt.IsKeyLit (.int .i64 (k : Int)) := trivial
  refine ⟨h.1.put _ _, fun t ht => ?_, fun j hj => ?_⟩
  · by_cases e : t = (k : Int)
    · exact ⟨k, by omega, e⟩
    · rw [has_put_other (fun q => e (by cases q; rfl))] at ht
      obtain ⟨j, hj, ht⟩ := h.2.1 t ht
      exact ⟨j, by omega, ht⟩
  · by_cases e : j = k
    · subst e
      exact ⟨has_put_same h.1 hk _, fun z => by rw [atKey_put_same h.1 hk, hv]⟩
    · have hne : (Lit.int .i64 (j : Int)) ≠ .int .i64 (k : Int) := fun q => e (by injection q with _ q; omega)
      obtain ⟨h1, h2⟩ := h.2.2 j (by omega)
      exact ⟨by rw [has_put_other hne]; exact h1, fun z => by rw [atKey_put_other hne]; exact h2 z⟩

theorem below_grown {w w' : World} (h : Below w.heap.size w w') : w.grownBy w' none := ⟨h.os, h.tape, h.output, h.size, fun i hi _ => h.block i hi⟩

set_option maxHeartbeats 4000000 in
set_option maxRecDepth 100000 in
theorem implCands_is (g o c : Nat) (l : List Int) (u : List Nat) (hu : nats l = u) (hok : SymOk l 11) (hc : 11 ≤ c) (s : Nat) (hs : syn 0 u = s) (w : World) (hr : RowI w (some ⟨g, o, none⟩) l) :
    Calls Tryd.prog 34 #[.slice (some ⟨g, o, none⟩) 11 c] w fun e w' => ∃ mb D, e = .returned (.map (some mb)) ∧ w'.ownsMap (H := Unit) Tryd.prog 3 (plainElem Tryd.prog 3) mb 11 D ∧ CandD (fun j => ((u.getD j 0 ^^^ s : Nat) : Int)) 11 D ∧ w.heap.size ≤ mb ∧ Below w.heap.size w w' := by
  have hlen : l.length = 11 := by have := hok.2; omega
  obtain ⟨sl, hsl⟩ : ∃ s, syns l = s := ⟨_, rfl⟩
  have hs3 : sl.length = 3 := by rw [← hsl]; unfold syns; rw [if_pos hok]; rfl
  have hs0 : sl.getD 0 0 = (s : Int) := by rw [← hsl, ← hs, ← hu]; unfold syns; rw [if_pos hok]; rfl
  have hult : Lt16 u := by rw [← hu]; exact nats_lt hok.1
  have hul : u.length = 11 := by rw [← hu, nats_length]; exact hlen
  have HSL := Lib.hid hsl
  have HS3 := Lib.hid hs3
  have HS0 := Lib.hid hs0
  have HN := Lib.hid hlen
  have HA := Lib.hid hr
  have HLT := Lib.hid hult
  have HSV : Hid (s < 16) := by show _ < _; rw [← hs]; exact syn_lt 0 hult
  have HGET : Hid (∀ j, j < 11 → l.getD j 0 = ((u.getD j 0 : Nat) : Int)) := fun j hj => by rw [nats_getD hok.1 (by omega), hu]
  have hmm := @run_makeMap Tryd.prog
  clear hsl hs3 hs0 hu hok hs hlen hult hul hr
  go_enter Tryd.func34, Tryd.ntmps34
  go_wp2_with fail
  refine (implSyndromes_is (some ⟨g, o, none⟩) 11 c l 3 (by decide) sl HSL.out HS3.out HN.out (by decide) hc _ HA.out).mono ?_
  rintro e w2 ⟨sa, sc, rfl, _, own2, hb2⟩
  obtain ⟨sg, so, rfl, ce, _, _, _⟩ := own2.at (k := 0) (by rw [HS3.out]; decide)
  rw [HS0.out, Nat.add_zero] at ce
  have HB2 := Lib.hid hb2
  have HA2 := Lib.hid (HA.out.below hb2)
  clear own2 hb2
  have hb3 : Below w2.heap.size w2 (w2.alloc (.map #[] 0)) := (Below.refl _ _).alloc (Nat.le_refl _) _
  have G3 : Hid ((w2.alloc (.map #[] 0)).ownsMap (H := Unit) Tryd.prog 3 (plainElem Tryd.prog 3) w2.heap.size 0 (.map [])) := World.ownsMap_made _ _ _ _
  have HB3 : Hid (Below w.heap.size w (w2.alloc (.map #[] 0))) := HB2.out.trans (hb3.mono HB2.out.size)
  have HA3 := Lib.hid (HA2.out.below hb3)
  have HMB : Hid (w.heap.size ≤ w2.heap.size) := HB2.out.size
  go_wp2_with fail
  clear ce hb3
  generalize w2.alloc (.map #[] 0) = w3 at G3 HB3 HA3 ⊢
  generalize w2.heap.size = mb at G3 HMB ⊢
  go_loopw [14] (fun i wr => ∃ k : Nat, ∃ D : DataW Unit, k ≤ 11 ∧ i = .int .i64 k ∧ wr.ownsMap (H := Unit) Tryd.prog 3 (plainElem Tryd.prog 3) mb k D ∧ CandD (fun j => ((u.getD j 0 ^^^ s : Nat) : Int)) k D ∧ Below w.heap.size w wr) (fun i _ => 11 - (intOf i).toNat)
  case atStart => exact ⟨0, _, Nat.zero_le _, rfl, G3.out, candD_start _, HB3.out⟩
  case round =>
    obtain ⟨k, D, hk, rfl, hown, hD, hbr⟩ := hrel
    have HBR := Lib.hid hbr
    have HD := Lib.hid hD
    have HO := Lib.hid hown
    clear hD hbr hown
    by_cases hlt : k < 11
    · obtain ⟨g', o', he, hca⟩ := (HA.out.below HBR.out).at (k := k) (by rw [HN.out]; exact hlt)
      cases he
      rw [HGET.out k hlt] at hca
      have hkk : (k : Int) < 11 := by omega
      have HX : Hid (gfAdd ((u.getD k 0 : Nat) : Int) (s : Int) = ((u.getD k 0 ^^^ s : Nat) : Int)) := gfAdd_nat (getDn_lt HLT.out k) HSV.out
      have hy16 : u.getD k 0 ^^^ s < 16 := xor_lt (getDn_lt HLT.out k) HSV.out
      have HD2 := Lib.hid (candD_step HD.out (v := ((u.getD k 0 ^^^ s : Nat) : Int)) rfl)
      generalize u.getD k 0 ^^^ s = y at HX hy16 HD2
      generalize u.getD k 0 = x at HX hca
      have hwy : (Lit.int .i64 (y : Int)).wf = true := WalkArith.wf_i64 (by omega)
      have hkey := keyOf_int_mk Tryd.underlying3 (a := (k : Int)) (WalkArith.wf_i64 (by omega))
      go_wp2_with fail
      refine (implGfAdd_is _ _ _ HX.out _).mono ?_
      rintro e w4 ⟨rfl, hb4⟩
      have HO4 : Hid (w4.ownsMap (H := Unit) Tryd.prog 3 (plainElem Tryd.prog 3) mb k D) := HO.out.kept (below_grown hb4) (by simp)
      have HB4 : Hid (Below w.heap.size w w4) := HBR.out.trans (hb4.mono HBR.out.size)
      clear hb4 hca HBR HO
      go_wp2_with (at_mapUpdate; refine wpList_mapUpdate_own _ rfl _ _ _ 51 rfl 3 3 (int_keyed Tryd.underlying3) Tryd.underlying51 _ mb k _ rfl HO4.out (by unfold maxLen; omega) _ _ _ rfl rfl hkey _ [] (plainElem_int Tryd.underlying3 hwy) ?_; intro w5 hown5 hgrow5)
      go_roundw
      case rel => exact ⟨k + 1, _, by omega, by go_num, hown5, HD2.out, HB4.out.grown hgrow5 HB4.out.size (fun j hj => by cases hj; exact HMB.out)⟩
      case measure => simp [intOf]; omega
    · obtain rfl : k = 11 := by omega
      (try rw [show ((11 : Nat) : Int) = 11 from rfl])
      go_wp2_with fail
      go_ret
      exact ⟨mb, D, rfl, HO.out, HD.out, HMB.out, HBR.out⟩

end Go.Proofs.YtpddinflkkcodaaDoor

namespace Go.Proofs.YtpddinflkkcodaaDoor
open Go.RowKit Go.Maps Go.PlainAid

set_option linter.unusedVariables false

theorem nats_set (l : List Int) (k : Nat) (x : Nat) : nats (l.set k (x : Int)) = (nats l).set k x := by
  unfold nats
  rw [List.map_set]
  rfl

theorem symOk_set {l : List Int} {m : Int} (h : SymOk l m) (k : Nat) {x : Nat} (hx : x < 16) : SymOk (l.set k (x : Int)) m := by
  refine ⟨fun v hv => ?_, by rw [List.length_set]; exact h.2⟩
  rcases List.mem_or_eq_of_mem_set hv with h1 | h1
  · exact h.1 v h1
  · subst h1
    unfold El
    omega

theorem setCell_grown (w : World) (p : Addr) (v : Value) : w.grownBy (w.setCell p v) (some p.block) :=
  ⟨rfl, rfl, rfl, by simp, fun i hi hne => Below.heap_setCell _ _ _ _ (fun e => hne (by rw [e]))⟩

theorem OwnJ.grownK {B n c : Nat} {a : Option Addr} {l : List Int} {w w' : World} {row : Option Nat} (h : OwnJ B (.slice a n c) l w) (hg : w.grownBy w' row) (hne : ∀ x, a = some x → some x.block ≠ row) : OwnJ B (.slice a n c) l w' :=
  h.same (fun x hx => hg.block _ (h.lo x hx).2 (hne x hx))

theorem ownJ_at0 {B n c g : Nat} {l : List Int} {w : World} (h : OwnJ B (.slice (some ⟨g, 0, none⟩) n c) l w) {k : Nat} (hk : k < l.length) :
    w.cell? ⟨g, k, none⟩ = some (.int .i64 (l.getD k 0)) ∧ w.frozen? ⟨g, k, none⟩ = false ∧ B ≤ g ∧ g < w.heap.size := by
  obtain ⟨g', o, e, h1, h2, h3, h4⟩ := h.at hk
  cases e
  rw [Nat.zero_add] at h1 h2
  exact ⟨h1, h2, h3, h4⟩

theorem ownJ_stored0 {B n c g : Nat} {l : List Int} {w : World} (h : OwnJ B (.slice (some ⟨g, 0, none⟩) n c) l w) (hl : l.length = n) {k : Nat} (hk : k < n) (x : Int) : OwnJ B (.slice (some ⟨g, 0, none⟩) n c) (l.set k x) (w.setCell ⟨g, k, none⟩ (.int .i64 x)) := by
  have := h.stored hl hk x
  rwa [Nat.zero_add] at this

set_option maxHeartbeats 8000000 in
set_option maxRecDepth 100000 in
theorem implCorrectWord_is : ICorrectWord := by
  intro a n c l k hk v hv hk2 hn hl hc w h
  have HN := Lib.hid hn
  have HA := Lib.hid h
  by_cases hok : SymOk l 11
  case neg =>
    have KA := Lib.hid (decide_eq_false hok)
    obtain rfl : v = ([], 2, -1) := by rw [← hv]; exact if_neg hok
    obtain rfl : k = 0 := hk2.symm
    clear hok hv hn h hk2
    go_enter Tryd.func20, Tryd.ntmps20
    go_wp2_with fail
    refine (implSymbolsOk_is a n c l 11 false KA.out HN.out hl hc _ HA.out).mono ?_
    rintro e w2 ⟨rfl, hb2⟩
    have HB2 := Lib.hid hb2
    clear hb2
    go_wp2_with fail
    refine bodyPost_ret (v := .tuple #[.slice none 0 0, .int .i64 2, .int .i64 (-1)]) (by simp [results, Tryd.results20, go_sem]) rfl ?_
    exact ⟨none, 0, rfl, Nat.le_refl _, ownJ_nil _ _, HB2.out⟩
  have KA := Lib.hid (decide_eq_true hok)
  obtain rfl : n = 11 := by have := hok.2; omega
  obtain ⟨g, o, rfl, _⟩ := h.at (k := 0) (by rw [hn]; omega)
  obtain ⟨u, hu⟩ : ∃ u, nats l = u := ⟨_, rfl⟩
  have hult : Lt16 u := by rw [← hu]; exact nats_lt hok.1
  have hul : u.length = 11 := by rw [← hu, nats_length]; exact hn
  have hcor : corW l = (ints (correct u).1, (correct u).2.1, (correct u).2.2) := by rw [← hu]; exact if_pos hok
  have hint : ints u = l := by rw [← hu]; exact ints_nats hok.1
  have HOK := Lib.hid hok
  have HU := Lib.hid hu
  have HGET : Hid (∀ j, j < 11 → l.getD j 0 = ((u.getD j 0 : Nat) : Int)) := fun j hj => by rw [nats_getD hok.1 (by omega), hu]
  have hk11 : k = 11 := by
    rw [← hk2, ← hv, hcor, ints_length, ← hul]
    unfold correct
    split
    · rfl
    · split
      · rfl
      · exact List.length_set ..
  subst hk11
  by_cases hz : Zero3 u
  case pos =>
    have HG : Hid (decide (goodW l) = true) := decide_eq_true ⟨hok, by rw [hu]; exact hz⟩
    obtain rfl : v = (l, 0, -1) := by rw [← hv, hcor, correct_none hz, hint]
    clear hok hv hn h hk2 hu hult hul hcor hint hz
    go_enter Tryd.func20, Tryd.ntmps20
    go_wp2_with fail
    refine (implSymbolsOk_is (some ⟨g, o, none⟩) 11 c l 11 true KA.out HN.out hl hc _ HA.out).mono ?_
    rintro e w2 ⟨rfl, hb2⟩
    have HB2 := Lib.hid hb2
    have HA2 := Lib.hid (HA.out.below hb2)
    clear hb2
    go_wp2_with fail
    refine (implCloneI_is (some ⟨g, o, none⟩) 11 c l HN.out (by omega) (fun h => by cases h) _ HA2.out).mono ?_
    rintro e w3 ⟨aa, cc, rfl, own3, hb3⟩
    have HB3 : Hid (Below w.heap.size w w3) := HB2.out.trans (hb3.mono HB2.out.size)
    have HS2 := Lib.hid HB2.out.size
    rw [HN.out] at own3
    have HO3 := Lib.hid own3
    have HC3 : Hid (11 ≤ cc) := own3.cap_le HN.out
    rw [HN.out]
    clear own3 hb3
    go_wp2_with fail
    refine (implWordOk_is aa 11 cc l true HG.out HN.out (by decide) HC3.out _ HO3.out.row).mono ?_
    rintro e w4 ⟨rfl, hb4⟩
    have HB4 : Hid (Below w.heap.size w w4) := HB3.out.trans (hb4.mono HB3.out.size)
    have HO4 : Hid (OwnJ w2.heap.size (.slice aa 11 cc) l w4) := (HO3.out.toJ HN.out).below hb4
    clear hb4
    go_wp2_with fail
    refine bodyPost_ret (v := .tuple #[.slice aa 11 cc, .int .i64 0, .int .i64 (-1)]) (by simp [results, Tryd.results20, go_sem]) rfl ?_
    exact ⟨aa, cc, rfl, HC3.out, HO4.out.mono HS2.out, HB4.out⟩
  have HG : Hid (decide (goodW l) = false) := decide_eq_false (fun q => hz (by rw [← hu]; exact q.2))
  obtain ⟨s, hs⟩ : ∃ s, syn 0 u = s := ⟨_, rfl⟩
  have HS := Lib.hid hs
  have HSV : Hid (s < 16) := by show _ < _; rw [← hs]; exact syn_lt 0 hult
  have HHIT : Hid (∀ j, j < 11 → Zero3 (u.set j (u.getD j 0 ^^^ s)) → v = (l.set j ((u.getD j 0 ^^^ s : Nat) : Int), 1, (j : Int))) := fun j hj hz3 => by
    rw [← hv, hcor]
    rw [← hs] at hz3 ⊢
    rw [correct_at hul hult hz hj hz3, ints_set, hint]
  have HMISS : Hid ((∀ j, j < 11 → ¬ Zero3 (u.set j (u.getD j 0 ^^^ s))) → v = (l, 2, -1)) := fun hz3 => by
    rw [← hv, hcor, correct_lost hul hult hz (fun j hj => by rw [hs]; exact hz3 j hj), hint]
  have HLT := Lib.hid hult
  have hgw : g < w.heap.size := by
    obtain ⟨_, _, e, hc⟩ := h.at (k := 0) (by rw [hn]; omega)
    cases e
    exact World.block_lt_of_cell? _ _ hc
  clear hok hv hn h hk2 hu hult hul hcor hint hz hs
  go_enter Tryd.func20, Tryd.ntmps20
  go_wp2_with fail
  refine (implSymbolsOk_is (some ⟨g, o, none⟩) 11 c l 11 true KA.out HN.out hl hc _ HA.out).mono ?_
  rintro e w2 ⟨rfl, hb2⟩
  have HB2 := Lib.hid hb2
  have HA2 := Lib.hid (HA.out.below hb2)
  clear hb2
  go_wp2_with fail
  refine (implCloneI_is (some ⟨g, o, none⟩) 11 c l HN.out (by omega) (fun h => by cases h) _ HA2.out).mono ?_
  rintro e w3 ⟨aa, cc, rfl, own3, hb3⟩
  have HB3 : Hid (Below w.heap.size w w3) := HB2.out.trans (hb3.mono HB2.out.size)
  have HS2 := Lib.hid HB2.out.size
  rw [HN.out] at own3
  obtain ⟨gC, rfl, _, _, _, _⟩ := own3.at (k := 0) (by rw [HN.out]; decide)
  have hgC : w2.heap.size ≤ gC ∧ gC < w3.heap.size := (own3.toJ HN.out).lo _ rfl
  have HO3 := Lib.hid own3
  have HC3 : Hid (11 ≤ cc) := own3.cap_le HN.out
  have HGC : Hid (w.heap.size ≤ gC) := Nat.le_trans HS2.out hgC.1
  have HGL := Lib.hid hgC.2
  rw [HN.out]
  clear own3 hb3 hgC HA2 HB2
  go_wp2_with fail
  refine (implWordOk_is (some ⟨gC, 0, none⟩) 11 cc l false HG.out HN.out (by decide) HC3.out _ HO3.out.row).mono ?_
  rintro e w4 ⟨rfl, hb4⟩
  have HB4 : Hid (Below w.heap.size w w4) := HB3.out.trans (hb4.mono HB3.out.size)
  have HO4 : Hid (OwnJ w.heap.size (.slice (some ⟨gC, 0, none⟩) 11 cc) l w4) := ((HO3.out.toJ HN.out).below hb4).mono HS2.out
  have HGL4 : Hid (gC < w4.heap.size) := Nat.lt_of_lt_of_le HGL.out hb4.size
  clear hb4 HO3 HB3 HS2
  go_wp2_with fail
  refine (implCands_is g o c l u HU.out HOK.out hc s HS.out _ (HA.out.below HB4.out)).mono ?_
  rintro e w5 ⟨mb, D, rfl, hown5, hD, hmb, hb5⟩
  have HB5 : Hid (Below w.heap.size w w5) := HB4.out.trans (hb5.mono HB4.out.size)
  have HO5 := Lib.hid (HO4.out.below hb5)
  have HD := Lib.hid hD
  have hgm : gC ≠ mb := by have := HGL4.out; omega
  have hgr : gC < w5.heap.size := Nat.lt_of_lt_of_le HGL4.out hb5.size
  have hrw : w.heap.size ≤ w5.heap.size := HB5.out.size
  clear hb5 HO4 HB4 hD HGL4 HGL
  go_wp2_with (at_range; refine wpList_range_own _ rfl _ 51 rfl 3 3 (int_keyed Tryd.underlying3) Tryd.underlying51 _ mb 11 D rfl hown5 ?_; intro w6 hrg6 hg6 hs6)
  go_frame
  have HO6 := Lib.hid (HO5.out.grownK hg6 (fun x hx => by simp))
  have HB6 : Hid (Below w.heap.size w w6) := HB5.out.grown hg6 HB5.out.size (fun j hj => by cases hj)
  clear hg6 hs6 hown5 HO5 HB5
  generalize w5.heap.size = rr at hrg6 hgr hrw ⊢
  go_loopw [6] (fun _ wr => ∃ (left : Lit → Bool) (cnt : Nat), wr.ranges (H := Unit) Tryd.prog 3 (plainElem Tryd.prog 3) mb rr 11 D left cnt ∧ (∀ kl, left kl = true → Maps.has D kl = true) ∧ (∀ j : Nat, j < 11 → left (.int .i64 (j : Int)) = false → ¬ Zero3 (u.set j (u.getD j 0 ^^^ s))) ∧ OwnJ w.heap.size (.slice (some ⟨gC, 0, none⟩) 11 cc) l wr ∧ Below w.heap.size w wr) (fun _ wr => wr.rangeLeft mb rr)
  case atStart => exact ⟨_, _, hrg6, (fun _ h => h), (fun j hj h => by rw [(HD.out.2.2 j hj).1] at h; cases h), HO6.out, HB6.out⟩
  case round =>
    obtain ⟨left, cnt, hrg, hsub, hmiss, hown, hbr⟩ := hrel
    have HSUB := Lib.hid hsub
    have HMI := Lib.hid hmiss
    have HO := Lib.hid hown
    have HBR := Lib.hid hbr
    clear hsub hmiss hown hbr hrg6 HO6 HB6
    go_wp2_with (at_next; refine wpList_next_ranges_ii _ rfl _ rfl 3 3 .i64 .i64 (int_keyed Tryd.underlying3) Tryd.underlying3 Tryd.underlying3 mb rr 11 _ _ _ rfl hrg ?_ ?_)
    · intro hc0 hl0
      have HV := Lib.hid (HMISS.out (fun j hj => HMI.out j hj (hl0 _)))
      clear hl0
      go_wp2_with fail
      refine bodyPost_ret (v := .tuple #[.slice (some ⟨gC, 0, none⟩) 11 cc, .int .i64 2, .int .i64 (-1)]) (by simp [results, Tryd.results20, go_sem]) rfl ?_
      rw [HV.out]
      exact ⟨_, cc, rfl, HC3.out, HO.out, HBR.out⟩
    · intro x y w7 cnt7 hwx hwc hlx hat hrg7 hlt hg7 hs7 hen
      obtain ⟨j, hj, rfl⟩ := HD.out.2.1 x (HSUB.out _ hlx)
      obtain rfl : y = ((u.getD j 0 ^^^ s : Nat) : Int) := by
        have h1 := (HD.out.2.2 j hj).2 (.lit (.int .i64 0))
        have h2 := hat (.lit (.int .i64 0))
        rw [h1] at h2
        injection h2 with h2
        injection h2 with _ h2
        exact h2.symm
      have hy16 : u.getD j 0 ^^^ s < 16 := xor_lt (getDn_lt HLT.out j) HSV.out
      have HO7 := Lib.hid (HO.out.grownK hg7 (fun x hx => by cases hx; exact fun e => by have := Option.some.inj e; have h2 : gC = rr := this; omega))
      have HB7 : Hid (Below w.heap.size w w7) := HBR.out.grown hg7 HBR.out.size (fun j hj => by cases hj; exact hrw)
      have HH := Lib.hid (HHIT.out j hj)
      obtain ⟨zc, hzc⟩ : ∃ z, z = Zero3 (u.set j (u.getD j 0 ^^^ s)) := ⟨_, rfl⟩
      have HZC := Lib.hid hzc
      rw [← hzc] at HH
      have HNS : Hid (nats (l.set j ((u.getD j 0 ^^^ s : Nat) : Int)) = u.set j (u.getD j 0 ^^^ s)) := by show _ = _; rw [nats_set, HU.out]
      have HSO := Lib.hid (symOk_set HOK.out j hy16)
      have HGO : Hid (goodW (l.set j ((u.getD j 0 ^^^ s : Nat) : Int)) ↔ zc) := by
        show _ ↔ _
        rw [hzc]
        unfold goodW
        rw [HNS.out]
        exact ⟨fun q => q.2, fun q => ⟨HSO.out, q⟩⟩
      clear hzc HNS HSO hat hlx hg7 hs7 hwc HO HBR
      generalize u.getD j 0 ^^^ s = yy at hen hy16 HH HGO
      have HL2 : Hid ((l.set j (yy : Int)).length = 11) := by show _ = _; rw [List.length_set]; exact HN.out
      obtain ⟨ce, cf, cB, cS⟩ := ownJ_at0 HO7.out (k := j) (by rw [HN.out]; exact hj)
      have R8 := Lib.hid (ownJ_stored0 HO7.out HN.out hj (yy : Int))
      have HB8 : Hid (Below w.heap.size w (w7.setCell ⟨gC, j, none⟩ (.int .i64 (yy : Int)))) := HB7.out.setCell HGC.out _
      have HR8 := Lib.hid (hrg7.kept (setCell_grown w7 ⟨gC, j, none⟩ (.int .i64 (yy : Int))) (fun e => hgm (Option.some.inj e).symm) (fun e => by have := Option.some.inj e; have h2 : rr = gC := this; omega))
      have hj11 : (j : Int) < 11 := by omega
      clear hrg7 HO7 HB7
      go_wp2_with fail
      clear ce cf cB cS hen
      generalize w7.setCell ⟨gC, j, none⟩ (.int .i64 (yy : Int)) = w8 at R8 HB8 HR8 ⊢
      by_cases hz3 : zc
      · have HG2 : Hid (decide (goodW (l.set j (yy : Int))) = true) := decide_eq_true (HGO.out.2 hz3)
        have HV := Lib.hid (HH.out hz3)
        clear HGO HH
        refine (implWordOk_is (some ⟨gC, 0, none⟩) 11 cc (l.set j (yy : Int)) true HG2.out HL2.out (by decide) HC3.out _ R8.out.row).mono ?_
        rintro e w9 ⟨rfl, hb9⟩
        have R9 := Lib.hid (R8.out.below hb9)
        have HB9 : Hid (Below w.heap.size w w9) := HB8.out.trans (hb9.mono HB8.out.size)
        clear hb9 R8 HB8 HR8
        go_wp2_with fail
        refine bodyPost_ret (v := .tuple #[.slice (some ⟨gC, 0, none⟩) 11 cc, .int .i64 1, .int .i64 (j : Int)]) (by simp [results, Tryd.results20, go_sem]) rfl ?_
        rw [HV.out]
        exact ⟨_, cc, rfl, HC3.out, R9.out, HB9.out⟩
      · have HG2 : Hid (decide (goodW (l.set j (yy : Int))) = false) := decide_eq_false (fun q => hz3 (HGO.out.1 q))
        have HNZ : Hid (¬ zc) := hz3
        clear HGO HH hz3
        refine (implWordOk_is (some ⟨gC, 0, none⟩) 11 cc (l.set j (yy : Int)) false HG2.out HL2.out (by decide) HC3.out _ R8.out.row).mono ?_
        rintro e w9 ⟨rfl, hb9⟩
        have R9 := Lib.hid (R8.out.below hb9)
        have HB9 : Hid (Below w.heap.size w w9) := HB8.out.trans (hb9.mono HB8.out.size)
        have HR9 := Lib.hid (HR8.out.kept (below_grown hb9) (by simp) (by simp))
        clear hb9 R8 HB8 HR8
        obtain ⟨g', o', he, hca⟩ := (HA.out.below HB9.out).at (k := j) (by rw [HN.out]; exact hj)
        cases he
        have HBACK : Hid ((l.set j (yy : Int)).set j (l.getD j 0) = l) := by
          show _ = _
          rw [List.set_set, List.getD_eq_getElem?_getD, List.getElem?_eq_getElem (show j < l.length by rw [HN.out]; exact hj)]
          apply List.ext_getElem (by simp)
          intro i h1 h2
          rw [List.getElem_set]
          split
          · rename_i h; subst h; rfl
          · rfl
        generalize l.getD j 0 = ov at hca HBACK
        obtain ⟨ce, cf, cB, cS⟩ := ownJ_at0 R9.out (k := j) (by rw [HL2.out]; exact hj)
        have R10 := ownJ_stored0 R9.out HL2.out hj ov
        rw [HBACK.out] at R10
        have HR10 := Lib.hid R10
        have HB10 : Hid (Below w.heap.size w (w9.setCell ⟨gC, j, none⟩ (.int .i64 ov))) := HB9.out.setCell HGC.out _
        have HRR := Lib.hid (HR9.out.kept (setCell_grown w9 ⟨gC, j, none⟩ (.int .i64 ov)) (fun e => hgm (Option.some.inj e).symm) (fun e => by have := Option.some.inj e; have h2 : rr = gC := this; omega))
        clear R10 R9 HB9 HR9 HBACK
        go_wp2_with fail
        go_roundw
        case rel =>
          refine ⟨_, _, HRR.out, fun kl h => ?_, fun i hi h => ?_, HR10.out, HB10.out⟩
          · simp only [Bool.and_eq_true] at h
            exact HSUB.out _ h.1
          · by_cases e : i = j
            · subst e
              rw [← HZC.out]
              exact HNZ.out
            · have hne : (Lit.int .i64 (i : Int)) ≠ .int .i64 (j : Int) := fun q => e (by injection q with _ q; omega)
              rw [Maps.sameKey_ne hne] at h
              exact HMI.out i hi (by simpa using h)
        case measure => rw [HRR.out.left_eq, hrg.left_eq]; exact hlt

end Go.Proofs.YtpddinflkkcodaaDoor

namespace Go.Proofs.YtpddinflkkcodaaDoor
open Go.RowKit Go.PlainAid

set_option linter.unusedVariables false

/-- Numbers in the cells of an array. -/
def cI (l : List Int) : Array Value := (l.map (Value.int .i64)).toArray

theorem cI_at {w : World} {g : Nat} {t : TypeId} {l : List Int} (h : w.heap[g]? = some (.cells (cI l) t (0, 0))) {k : Nat} (hk : k < l.length) : w.cell? ⟨g, k, none⟩ = some (.int .i64 (l.getD k 0)) := by
  have e : w.cell? ⟨g, k, none⟩ = (cI l)[k]? := by simp only [World.cell?, h]; rfl
  rw [e]
  unfold cI
  rw [List.getElem?_toArray, List.getElem?_map, List.getElem?_eq_getElem hk, List.getD_eq_getElem?_getD, List.getElem?_eq_getElem hk]
  rfl

theorem cI_set (l : List Int) (k : Nat) (v : Int) : (cI l).setIfInBounds k (.int .i64 v) = cI (l.set k v) := by
  unfold cI
  rw [List.setIfInBounds_toArray, List.map_set]

theorem row_cI {w : World} {g : Nat} {t : TypeId} {l : List Int} (h : w.heap[g]? = some (.cells (cI l) t (0, 0))) : RowI w (some ⟨g, 0, none⟩) l :=
  .inr ⟨g, 0, rfl, fun i hi => by rw [Nat.zero_add]; exact cI_at h hi⟩

theorem intsN_getD' (r : List Nat) (k : Nat) : (ints r).getD k 0 = ((r.getD k 0 : Nat) : Int) := ints_getD r k

theorem eightI {l : List Int} (h : l.length = 8) : ∃ a0 a1 a2 a3 a4 a5 a6 a7, l = [a0, a1, a2, a3, a4, a5, a6, a7] := by
  match l, h with
  | [a0, a1, a2, a3, a4, a5, a6, a7], _ => exact ⟨a0, a1, a2, a3, a4, a5, a6, a7, rfl⟩

theorem corW_len (w : List Int) (h : SymOk w 11) : (corW w).1.length = w.length := by
  unfold corW
  rw [if_pos h]
  show (ints (correct (nats w)).1).length = _
  rw [ints_length]
  unfold correct
  split
  · exact nats_length w
  · split
    · exact nats_length w
    · show ((nats w).set _ _).length = _
      rw [List.length_set]; exact nats_length w

theorem corW_els (w : List Int) (h : SymOk w 11) : Els (corW w).1 := by
  unfold corW
  rw [if_pos h]
  refine els_ints ?_
  have hw := nats_lt h.1
  unfold correct
  split
  · exact hw
  · split
    · exact hw
    · intro z hz
      rcases List.mem_or_eq_of_mem_set hz with h1 | rfl
      · exact hw z h1
      · exact xor_lt (getDn_lt hw _) (syn_lt 0 hw)

theorem corW_ok {w r : List Int} {c a : Int} (h : SymOk w 11) (e : corW w = (r, c, a)) : SymOk r 11 := by
  have h1 := corW_els w h
  have h2 := corW_len w h
  rw [e] at h1 h2
  exact ⟨h1, by rw [h2]; exact h.2⟩

/-- The first k symbols of n, and zeros. -/
def arrG (n k : Nat) : List Int := ints (grp n k) ++ List.replicate (8 - k) 0

theorem arrG_len (n : Nat) {k : Nat} (hk : k ≤ 8) : (arrG n k).length = 8 := by
  unfold arrG
  rw [List.length_append, ints_length, grp_length, List.length_replicate]
  omega

theorem arrG_end (n : Nat) : arrG n 8 = ints (grp n 8) := by
  unfold arrG
  simp

theorem arrG_set (n : Nat) {k : Nat} (hk : k < 8) : (arrG n k).set k ((n / 16 ^ k % 16 : Nat) : Int) = arrG n (k + 1) := by
  unfold arrG
  obtain ⟨m, hm⟩ : ∃ m, 8 - k = m + 1 := ⟨7 - k, by omega⟩
  have hl : (ints (grp n k)).length = k := by rw [ints_length, grp_length]
  rw [← grp_step, hm, show 8 - (k + 1) = m by omega, List.replicate_succ, List.set_append_right _ _ (by omega), hl, Nat.sub_self, List.set_cons_zero, List.append_assoc]
  rfl

set_option maxHeartbeats 4000000 in
set_option maxRecDepth 100000 in
theorem implSplit_is (n : Nat) (hn : n < 4294967296) (a0 a1 a2 a3 a4 a5 a6 a7 : Int) (hl : ints (grp n 8) = [a0, a1, a2, a3, a4, a5, a6, a7]) (w : World) :
    Calls Tryd.prog 31 #[.int .i64 (n : Int)] w (Gives (.agg #[.int .i64 a0, .int .i64 a1, .int .i64 a2, .int .i64 a3, .int .i64 a4, .int .i64 a5, .int .i64 a6, .int .i64 a7]) w) := by
  have HL := Lib.hid hl
  clear hl
  go_enter Tryd.func31, Tryd.ntmps31
  go_wp2_with fail
  generalize hw2 : (w.alloc (.cells #[.int .i64 0, .int .i64 0, .int .i64 0, .int .i64 0, .int .i64 0, .int .i64 0, .int .i64 0, .int .i64 0] 42)).alloc (.cells #[.int .i64 0, .int .i64 0, .int .i64 0, .int .i64 0, .int .i64 0, .int .i64 0, .int .i64 0, .int .i64 0] 42) = w2
  have HB2 : Hid (Below w.heap.size w w2) := by show Below _ _ _; rw [← hw2]; exact ((Below.refl _ _).alloc (Nat.le_refl _) _).alloc (by simp) _
  have r2 : w2.heap[w.heap.size]? = some (.cells (cI (arrG n 0)) 42 (0, 0)) := by rw [← hw2]; exact heap_alloc2_old _ _ _
  have t2 : w2.heap[w.heap.size + 1]? = some (.cells (cI (arrG n 0)) 42 (0, 0)) := by rw [← hw2]; exact heap_alloc2_new _ _ _
  clear hw2
  go_loopw [0, 5] (fun x i wr => ∃ k : Nat, k ≤ 8 ∧ i = .int .i64 k ∧ x = .int .i64 ((n / 16 ^ k : Nat) : Int) ∧ Hid (Below w.heap.size w wr) ∧ wr.heap[w.heap.size]? = some (.cells (cI (arrG n 0)) 42 (0, 0)) ∧ wr.heap[w.heap.size + 1]? = some (.cells (cI (arrG n k)) 42 (0, 0))) (fun _ i _ => 9 - (intOf i).toNat)
  case atStart => exact ⟨0, by omega, rfl, by rw [Nat.pow_zero, Nat.div_one], HB2, r2, t2⟩
  case round =>
    obtain ⟨k, hk, rfl, rfl, HBr, pr, pt⟩ := hrel
    by_cases hlt : k < 8
    case neg =>
      obtain rfl : k = 8 := by omega
      (try rw [show ((8 : Nat) : Int) = 8 from rfl])
      rw [arrG_end] at pt
      obtain ⟨b0, b1, b2, b3, b4, b5, b6, b7, hl0⟩ := eightI (l := arrG n 0) (arrG_len n (by omega))
      rw [HL.out] at pt
      rw [hl0] at pr
      have pt' : wr.heap[w.heap.size + 1]? = some (.cells #[.int .i64 a0, .int .i64 a1, .int .i64 a2, .int .i64 a3, .int .i64 a4, .int .i64 a5, .int .i64 a6, .int .i64 a7] 42 (0, 0)) := pt
      have pr' : wr.heap[w.heap.size]? = some (.cells #[.int .i64 b0, .int .i64 b1, .int .i64 b2, .int .i64 b3, .int .i64 b4, .int .i64 b5, .int .i64 b6, .int .i64 b7] 42 (0, 0)) := pr
      clear hl0 pt pr
      go_wp2_with (first | ((with_reducible refine load_list Tryd.underlying42 rfl ?_ ?_ ?_ pt' ?_); kernel_rfl; kernel_rfl; kernel_rfl; go_simp) | ((with_reducible refine store_list (cells := #[.int .i64 a0, .int .i64 a1, .int .i64 a2, .int .i64 a3, .int .i64 a4, .int .i64 a5, .int .i64 a6, .int .i64 a7]) pr' ?_ ?_ ?_ ?_ ?_ ?_); kernel_rfl; kernel_rfl; kernel_rfl; kernel_rfl; kernel_rfl))
      have hr5 := setRow_same wr w.heap.size #[.int .i64 a0, .int .i64 a1, .int .i64 a2, .int .i64 a3, .int .i64 a4, .int .i64 a5, .int .i64 a6, .int .i64 a7] _ _ pr'
      exact bodyPost_ret (v := .agg #[.int .i64 a0, .int .i64 a1, .int .i64 a2, .int .i64 a3, .int .i64 a4, .int .i64 a5, .int .i64 a6, .int .i64 a7]) (results_cell_row rfl _ _ w.heap.size 42 #[.int .i64 a0, .int .i64 a1, .int .i64 a2, .int .i64 a3, .int .i64 a4, .int .i64 a5, .int .i64 a6, .int .i64 a7] (0, 0) _ rfl hr5 Tryd.underlying42 rfl (by kernel_rfl)) rfl ⟨rfl, below_setRow HBr.out (Nat.le_refl _) _⟩
    obtain ⟨d, hd⟩ : ∃ d, n / 16 ^ k = d := ⟨_, rfl⟩
    have hd2 : n / 16 ^ (k + 1) = d / 16 := by rw [← hd, Nat.pow_succ, Nat.div_div_eq_div_mul]
    have hdn : d ≤ n := by rw [← hd]; exact Nat.div_le_self _ _
    have hset := arrG_set n hlt
    rw [hd] at hset ⊢
    have e1 : (d : Int).tmod 16 = ((d % 16 : Nat) : Int) := by rw [Int.tmod_eq_emod_of_nonneg (by omega)]; omega
    have e2 : (d : Int).tdiv 16 = ((d / 16 : Nat) : Int) := by rw [Int.tdiv_eq_ediv_of_nonneg (by omega)]; omega
    have hlt' : (k : Int) < 8 := by omega
    have wk : IntKind.i64.wrap ((k : Int) + 1) = (k : Int) + 1 := IntWalk.i64_in _ (by omega)
    have ce := cI_at pt (k := k) (by rw [arrG_len n hk]; exact hlt)
    have cf := thawed pt k
    have P2 : Hid ((wr.setCell ⟨w.heap.size + 1, k, none⟩ (.int .i64 ((d % 16 : Nat) : Int))).heap[w.heap.size + 1]? = some (.cells (cI (arrG n (k + 1))) 42 (0, 0))) := by
      show _ = _
      rw [← hset, ← cI_set]
      exact set_cells pt k _
    have R2 : Hid ((wr.setCell ⟨w.heap.size + 1, k, none⟩ (.int .i64 ((d % 16 : Nat) : Int))).heap[w.heap.size]? = some (.cells (cI (arrG n 0)) 42 (0, 0))) := (Below.heap_setCell _ _ _ _ (by simp)).trans pr
    have HB2 : Hid (Below w.heap.size w (wr.setCell ⟨w.heap.size + 1, k, none⟩ (.int .i64 ((d % 16 : Nat) : Int)))) := HBr.out.setCell (Nat.le_succ _) _
    have HD2 := Lib.hid hd2
    have HDN := Lib.hid hdn
    clear pr pt hset hd hd2 HBr r2 t2
    go_wp2_with fail
    go_roundw
    case rel => exact ⟨k + 1, by omega, by go_num, by rw [HD2.out]; exact congrArg _ (by omega), HB2, R2.out, P2.out⟩
    case measure => simp [intOf]; omega

theorem sym_ix0 (a0 a1 a2 a3 a4 a5 a6 a7 : Int) (w : World) : (Instr.index 42 (.agg #[.int .i64 a0, .int .i64 a1, .int .i64 a2, .int .i64 a3, .int .i64 a4, .int .i64 a5, .int .i64 a6, .int .i64 a7]) (.int .i64 0)).run Tryd.prog w = .ok (.int .i64 a0) w := by kernel_rfl

theorem sym_ix1 (a0 a1 a2 a3 a4 a5 a6 a7 : Int) (w : World) : (Instr.index 42 (.agg #[.int .i64 a0, .int .i64 a1, .int .i64 a2, .int .i64 a3, .int .i64 a4, .int .i64 a5, .int .i64 a6, .int .i64 a7]) (.int .i64 1)).run Tryd.prog w = .ok (.int .i64 a1) w := by kernel_rfl

theorem sym_ix2 (a0 a1 a2 a3 a4 a5 a6 a7 : Int) (w : World) : (Instr.index 42 (.agg #[.int .i64 a0, .int .i64 a1, .int .i64 a2, .int .i64 a3, .int .i64 a4, .int .i64 a5, .int .i64 a6, .int .i64 a7]) (.int .i64 2)).run Tryd.prog w = .ok (.int .i64 a2) w := by kernel_rfl

theorem sym_ix3 (a0 a1 a2 a3 a4 a5 a6 a7 : Int) (w : World) : (Instr.index 42 (.agg #[.int .i64 a0, .int .i64 a1, .int .i64 a2, .int .i64 a3, .int .i64 a4, .int .i64 a5, .int .i64 a6, .int .i64 a7]) (.int .i64 3)).run Tryd.prog w = .ok (.int .i64 a3) w := by kernel_rfl

theorem sym_ix4 (a0 a1 a2 a3 a4 a5 a6 a7 : Int) (w : World) : (Instr.index 42 (.agg #[.int .i64 a0, .int .i64 a1, .int .i64 a2, .int .i64 a3, .int .i64 a4, .int .i64 a5, .int .i64 a6, .int .i64 a7]) (.int .i64 4)).run Tryd.prog w = .ok (.int .i64 a4) w := by kernel_rfl

theorem sym_ix5 (a0 a1 a2 a3 a4 a5 a6 a7 : Int) (w : World) : (Instr.index 42 (.agg #[.int .i64 a0, .int .i64 a1, .int .i64 a2, .int .i64 a3, .int .i64 a4, .int .i64 a5, .int .i64 a6, .int .i64 a7]) (.int .i64 5)).run Tryd.prog w = .ok (.int .i64 a5) w := by kernel_rfl

theorem sym_ix6 (a0 a1 a2 a3 a4 a5 a6 a7 : Int) (w : World) : (Instr.index 42 (.agg #[.int .i64 a0, .int .i64 a1, .int .i64 a2, .int .i64 a3, .int .i64 a4, .int .i64 a5, .int .i64 a6, .int .i64 a7]) (.int .i64 6)).run Tryd.prog w = .ok (.int .i64 a6) w := by kernel_rfl

theorem sym_ix7 (a0 a1 a2 a3 a4 a5 a6 a7 : Int) (w : World) : (Instr.index 42 (.agg #[.int .i64 a0, .int .i64 a1, .int .i64 a2, .int .i64 a3, .int .i64 a4, .int .i64 a5, .int .i64 a6, .int .i64 a7]) (.int .i64 7)).run Tryd.prog w = .ok (.int .i64 a7) w := by kernel_rfl

theorem sym_index (a0 a1 a2 a3 a4 a5 a6 a7 : Int) (k : Nat) (hk : k < 8) (w : World) : (Instr.index 42 (.agg #[.int .i64 a0, .int .i64 a1, .int .i64 a2, .int .i64 a3, .int .i64 a4, .int .i64 a5, .int .i64 a6, .int .i64 a7]) (.int .i64 (k : Int))).run Tryd.prog w = .ok (.int .i64 ([a0, a1, a2, a3, a4, a5, a6, a7].getD k 0)) w :=
  match k, hk with
  | 0, _ => sym_ix0 a0 a1 a2 a3 a4 a5 a6 a7 w
  | 1, _ => sym_ix1 a0 a1 a2 a3 a4 a5 a6 a7 w
  | 2, _ => sym_ix2 a0 a1 a2 a3 a4 a5 a6 a7 w
  | 3, _ => sym_ix3 a0 a1 a2 a3 a4 a5 a6 a7 w
  | 4, _ => sym_ix4 a0 a1 a2 a3 a4 a5 a6 a7 w
  | 5, _ => sym_ix5 a0 a1 a2 a3 a4 a5 a6 a7 w
  | 6, _ => sym_ix6 a0 a1 a2 a3 a4 a5 a6 a7 w
  | 7, _ => sym_ix7 a0 a1 a2 a3 a4 a5 a6 a7 w

set_option maxHeartbeats 4000000 in
set_option maxRecDepth 100000 in
theorem implWord_is (u : List Nat) (hu : Lt16 u) (hul : u.length = 8) (a0 a1 a2 a3 a4 a5 a6 a7 : Int) (hl : ints u = [a0, a1, a2, a3, a4, a5, a6, a7]) (v : Int) (hv : ((wordN u : Nat) : Int) = v) (w : World) :
    Calls Tryd.prog 22 #[.agg #[.int .i64 a0, .int .i64 a1, .int .i64 a2, .int .i64 a3, .int .i64 a4, .int .i64 a5, .int .i64 a6, .int .i64 a7]] w (Gives (.int .i64 v) w) := by
  have HU := Lib.hid hu
  have HUL := Lib.hid hul
  have HWE : Hid (((wordN (u.take 8) : Nat) : Int) = v) := by show _ = _; rw [List.take_of_length_le (by omega)]; exact hv
  have hix : ∀ (k : Nat), k < 8 → ∀ w : World, (Instr.index 42 (.agg #[.int .i64 a0, .int .i64 a1, .int .i64 a2, .int .i64 a3, .int .i64 a4, .int .i64 a5, .int .i64 a6, .int .i64 a7]) (.int .i64 (k : Int))).run Tryd.prog w = .ok (.int .i64 ((u.getD k 0 : Nat) : Int)) w := by
    intro k hk w
    rw [← intsN_getD', hl]
    exact sym_index a0 a1 a2 a3 a4 a5 a6 a7 k hk w
  have HIX := Lib.hid hix
  obtain ⟨w1, hw1⟩ : ∃ x, w.alloc (.cells #[.int .i64 a0, .int .i64 a1, .int .i64 a2, .int .i64 a3, .int .i64 a4, .int .i64 a5, .int .i64 a6, .int .i64 a7] 42) = x := ⟨_, rfl⟩
  have HB1 : Hid (Below w.heap.size w w1) := by subst hw1; exact (Below.refl _ _).alloc (Nat.le_refl _) _
  have p1 : w1.heap[w.heap.size]? = some (.cells #[.int .i64 a0, .int .i64 a1, .int .i64 a2, .int .i64 a3, .int .i64 a4, .int .i64 a5, .int .i64 a6, .int .i64 a7] 42) := by subst hw1; exact heap_alloc_new _ _
  clear hu hul hl hv hix
  go_enter Tryd.func22, Tryd.ntmps22
  go_wp2_with ((with_reducible refine load_list Tryd.underlying42 rfl ?_ ?_ ?_ p1 ?_); kernel_rfl; kernel_rfl; kernel_rfl; go_simp)
  clear p1 hw1
  go_loopw [3, 7] (fun x i wr => ∃ k : Nat, k ≤ 8 ∧ i = .int .i64 k ∧ x = .int .i64 ((wordN (u.take k) : Nat) : Int) ∧ wr = w1) (fun _ i _ => 9 - (intOf i).toNat)
  case atStart => exact ⟨0, by omega, rfl, rfl, by trivial⟩
  case round =>
    obtain ⟨k, hk, rfl, rfl, rfl⟩ := hrel
    by_cases hlt : k < 8
    case neg =>
      obtain rfl : k = 8 := by omega
      (try rw [show ((8 : Nat) : Int) = 8 from rfl])
      rw [HWE.out]
      go_wp2_with fail
      go_ret
      exact ⟨rfl, HB1.out⟩
    have hI' : (k : Int) < 8 := by omega
    have wk : IntKind.i64.wrap ((k : Int) + 1) = (k : Int) + 1 := IntWalk.i64_in _ (by omega)
    have w4 : IntKind.i64.wrap ((k : Int) * 4) = (k : Int) * 4 := IntWalk.i64_in _ (by omega)
    have hix := HIX.out k hlt wr
    have hb : u.getD k 0 < 16 := getDn_lt HU.out k
    have HW : Hid (wordN (u.take k) ||| (u.getD k 0 <<< (4 * k)) = wordN (u.take (k + 1))) := word_step HU.out (by rw [HUL.out]; exact hlt)
    have hx := word_lt HU.out hk
    have hs := shl_lt hb hlt
    generalize u.getD k 0 = y at hix hb HW hs
    have hsy : (y : Int) * 2 ^ (k * 4) = ((y <<< (4 * k) : Nat) : Int) := by rw [Nat.shiftLeft_eq, Nat.mul_comm k 4]; simp
    generalize y <<< (4 * k) = sh at HW hs hsy
    have e1 : wrap64 ((y : Int) * 2 ^ (k * 4)) = (sh : Int) := by rw [hsy, ← IntWalk.i64_left]; exact IntWalk.i64_in _ (by omega)
    generalize wordN (u.take k) = X at HW hx
    have e2 : bits .or .i64 (X : Int) (sh : Int) = ((X ||| sh : Nat) : Int) := i64_or_nat _ _ (by omega) (by omega)
    generalize X ||| sh = Y at HW e2
    clear hsy
    go_wp2_with fail
    go_roundw
    case rel => exact ⟨k + 1, by omega, by go_num, by rw [← HW.out], by trivial⟩
    case measure => simp [intOf]; omega

set_option maxHeartbeats 4000000 in
set_option maxRecDepth 100000 in
theorem implSymbolsOfWord_is : ISymbolsOfWord := by
  intro x k hk v hv hk2 w
  have HK := Lib.hid hk2
  by_cases hx : Wd x
  case neg =>
    have KA := Lib.hid (decide_eq_false hx)
    have HV0 : Hid (v = []) := by show _ = _; rw [← hv]; exact symW_no hx
    clear hx hv hk2
    go_enter Tryd.func19, Tryd.ntmps19
    go_wp2_with fail
    refine (implIsWord_is x false KA.out _).mono ?_
    rintro e w2 ⟨rfl, rfl⟩
    go_wp2_with fail
    go_ret
    exact givesJ_nil HV0.out HK.out (Below.refl _ _)
  have KA := Lib.hid (decide_eq_true hx)
  obtain ⟨n, rfl⟩ := Int.eq_ofNat_of_zero_le hx.1
  have hn : n < 4294967296 := by have := hx.2; omega
  have HV : Hid (ints (grp n 8) = v) := by show _ = _; rw [← hv]; exact (symW_nat hx).symm
  obtain rfl : k = 8 := by rw [← hk2, ← HV.out, ints_length, grp_length]
  obtain ⟨a0, a1, a2, a3, a4, a5, a6, a7, hl⟩ := eightI (l := ints (grp n 8)) (by rw [ints_length, grp_length])
  have HL := Lib.hid hl
  obtain ⟨i0, hi, hz0, hz1, hz2⟩ := info_parts infoI
  clear hx hv hk2 hl
  go_enter Tryd.func19, Tryd.ntmps19
  go_wp2_with fail
  refine (implIsWord_is (n : Int) true KA.out _).mono ?_
  rintro e w2 ⟨rfl, rfl⟩
  go_wp2_with fail
  refine (implSplit_is n hn a0 a1 a2 a3 a4 a5 a6 a7 HL.out _).mono ?_
  rintro e w3 ⟨rfl, hb3⟩
  have HB3 := Lib.hid hb3
  clear hb3
  have pz := heap_alloc_new w3 (.cells #[.int .i64 0, .int .i64 0, .int .i64 0, .int .i64 0, .int .i64 0, .int .i64 0, .int .i64 0, .int .i64 0] 42)
  go_wp2_with (first | ((with_reducible refine store_list (cells := #[.int .i64 a0, .int .i64 a1, .int .i64 a2, .int .i64 a3, .int .i64 a4, .int .i64 a5, .int .i64 a6, .int .i64 a7]) pz ?_ ?_ ?_ ?_ ?_ ?_); kernel_rfl; kernel_rfl; kernel_rfl; kernel_rfl; kernel_rfl) | (at_make; refine wpList_make_full _ rfl _ _ 25 rfl ((w3.alloc (.cells #[.int .i64 0, .int .i64 0, .int .i64 0, .int .i64 0, .int .i64 0, .int .i64 0, .int .i64 0, .int .i64 0] 42)).setRow w3.heap.size #[.int .i64 a0, .int .i64 a1, .int .i64 a2, .int .i64 a3, .int .i64 a4, .int .i64 a5, .int .i64 a6, .int .i64 a7]).heap.size 3 i0 (.int .i64 0) 1 Tryd.underlying25 hi hz0 hz1 _ _ _ _ 8 rfl rfl rfl rfl (by rw [hz2]; omega) (by unfold maxLen; omega) (Nat.le_refl _) ?_))
  intro w5 hown hgr
  have r4 := setRow_same (w3.alloc (.cells #[.int .i64 0, .int .i64 0, .int .i64 0, .int .i64 0, .int .i64 0, .int .i64 0, .int .i64 0, .int .i64 0] 42)) w3.heap.size #[.int .i64 a0, .int .i64 a1, .int .i64 a2, .int .i64 a3, .int .i64 a4, .int .i64 a5, .int .i64 a6, .int .i64 a7] _ _ pz
  have hb4 : Below w.heap.size w ((w3.alloc (.cells #[.int .i64 0, .int .i64 0, .int .i64 0, .int .i64 0, .int .i64 0, .int .i64 0, .int .i64 0, .int .i64 0] 42)).setRow w3.heap.size #[.int .i64 a0, .int .i64 a1, .int .i64 a2, .int .i64 a3, .int .i64 a4, .int .i64 a5, .int .i64 a6, .int .i64 a7]) := below_setRow (HB3.out.alloc HB3.out.size _) HB3.out.size _
  have hsz : ((w3.alloc (.cells #[.int .i64 0, .int .i64 0, .int .i64 0, .int .i64 0, .int .i64 0, .int .i64 0, .int .i64 0, .int .i64 0] 42)).setRow w3.heap.size #[.int .i64 a0, .int .i64 a1, .int .i64 a2, .int .i64 a3, .int .i64 a4, .int .i64 a5, .int .i64 a6, .int .i64 a7]).heap.size = w3.heap.size + 1 := by simp
  generalize (w3.alloc (.cells #[.int .i64 0, .int .i64 0, .int .i64 0, .int .i64 0, .int .i64 0, .int .i64 0, .int .i64 0, .int .i64 0] 42)).setRow w3.heap.size #[.int .i64 a0, .int .i64 a1, .int .i64 a2, .int .i64 a3, .int .i64 a4, .int .i64 a5, .int .i64 a6, .int .i64 a7] = w4 at hown hgr r4 hb4 hsz
  have hb5 : Below w4.heap.size w4 w5 := (Below.refl _ _).grown hgr (Nat.le_refl _) (fun k hk => by cases hk)
  have hO5 : OwnI w4.heap.size (.slice (some ⟨w3.heap.size + 1, 0, none⟩) 8 8) [0, 0, 0, 0, 0, 0, 0, 0] w5 := by
    unfold OwnI
    rw [hsz]
    rw [made_one] at hown
    exact hown
  have r5 := keep_block hb5 r4 (lt_of_block r4)
  have HR5 : Hid (RowI w5 (some ⟨w3.heap.size, 0, none⟩) [a0, a1, a2, a3, a4, a5, a6, a7]) := row_cI (t := 42) r5
  have HB5 : Hid (Below w.heap.size w w5) := hb4.trans (hb5.mono hb4.size)
  have HO5 : Hid (OwnJ w.heap.size (.slice (some ⟨w3.heap.size + 1, 0, none⟩) 8 8) [0, 0, 0, 0, 0, 0, 0, 0] w5) := (hO5.toJ rfl).mono hb4.size
  clear pz r4 r5 hb4 hb5 hO5 hgr hown HB3 hsz
  generalize w3.heap.size + 1 = gs at HO5 ⊢
  generalize w3.heap.size = ga at HR5 ⊢
  go_wp2_with (refine copy_row rfl _ _ rfl w.heap.size gs 0 8 8 _ rfl HO5.out ⟨ga, 0, none⟩ 8 8 _ rfl HR5.out rfl (by decide) (by decide) ?_)
  intro w6 hown6 hb6
  have HO6 : Hid (OwnJ w.heap.size (.slice (some ⟨gs, 0, none⟩) 8 8) v w6) := by show OwnJ _ _ _ _; rw [← HV.out, HL.out]; exact hown6
  have HB6 : Hid (Below w.heap.size w w6) := HB5.out.trans hb6
  clear hown6 hb6 HO5 HR5 HB5
  go_wp2_with fail
  go_ret
  exact ⟨_, 8, rfl, Nat.le_refl _, HO6.out, HB6.out⟩

set_option maxHeartbeats 4000000 in
set_option maxRecDepth 100000 in
theorem copy_arr {ops : Array Oper} {rest : List Oper} {o : Oper} {a : Act} {w : World} {Q : Exit → Act → World → Prop} (hgd : o.guard = none) (d s : Operand) (ho : o.op = .call { callee := .builtin .copy, args := #[d, s], argTypes := #[25, 25] })
    (g : Nat) (hd : a.eval d = .slice (some ⟨g, 0, none⟩) 8 8) (ad : Addr) (c : Nat) (a0 a1 a2 a3 a4 a5 a6 a7 : Int) (hs : a.eval s = .slice (some ad) 8 c) (hrow : RowI w (some ad) [a0, a1, a2, a3, a4, a5, a6, a7]) {b0 b1 b2 b3 b4 b5 b6 b7 : Value}
    (hg : w.heap[g]? = some (.cells #[b0, b1, b2, b3, b4, b5, b6, b7] 42 (0, 0))) (h : wpList Tryd.prog ops Q rest (a.put o.dst (.int .i64 8)) (w.setRow g #[.int .i64 a0, .int .i64 a1, .int .i64 a2, .int .i64 a3, .int .i64 a4, .int .i64 a5, .int .i64 a6, .int .i64 a7])) : wpList Tryd.prog ops Q (o :: rest) a w := by
  refine wpList_copy_own hgd d s 25 25 ho 3 Tryd.underlying25 (by kernel_rfl) g 0 8 8 ad 8 c hd hs #[b0, b1, b2, b3, b4, b5, b6, b7] 42 hg [.int .i64 a0, .int .i64 a1, .int .i64 a2, .int .i64 a3, .int .i64 a4, .int .i64 a5, .int .i64 a6, .int .i64 a7] rfl (fun j v hv => ?_) (show 0 + 8 ≤ 8 by decide) (fun v hv => ?_) h
  · have hj : j < 8 := by rcases Nat.lt_or_ge j 8 with h | h; exact h; rw [List.getElem?_eq_none (by simpa using h)] at hv; cases hv
    obtain ⟨b, o2, e, hcell⟩ := hrow.at (k := j) (by simpa using hj)
    cases e
    rw [Addr.add_lit, hcell]
    match j, hj with
    | 0, _ => cases hv; rfl
    | 1, _ => cases hv; rfl
    | 2, _ => cases hv; rfl
    | 3, _ => cases hv; rfl
    | 4, _ => cases hv; rfl
    | 5, _ => cases hv; rfl
    | 6, _ => cases hv; rfl
    | 7, _ => cases hv; rfl
  · simp only [List.mem_cons, List.not_mem_nil, or_false] at hv
    rcases hv with rfl | rfl | rfl | rfl | rfl | rfl | rfl | rfl <;> rfl

set_option maxHeartbeats 4000000 in
set_option maxRecDepth 100000 in
theorem implDecodeLine_is : IDecodeLine := by
  intro a n c l x cd at' hv hn hl hc w h
  have HN := Lib.hid hn
  have HA := Lib.hid h
  obtain ⟨⟨r, c1, a1⟩, hcor⟩ : ∃ v, corW l = v := ⟨_, rfl⟩
  obtain ⟨m, hm⟩ : ∃ m, r.length = m := ⟨_, rfl⟩
  have hr11 : m ≤ 11 := by have := corW_le l; rw [hcor] at this; exact hm ▸ this
  have HC := Lib.hid hcor
  have HM := Lib.hid hm
  unfold decW at hv
  rw [hcor] at hv
  have HV : Hid ((if c1 = 2 then ((0 : Int), (2 : Int), a1) else ((wordS (dataI r)).1, c1, a1)) = (x, cd, at')) := hv
  clear hn h hv
  by_cases h2 : c1 = 2
  case pos =>
    have HV2 : Hid (0 = x ∧ 2 = cd ∧ a1 = at') := by
      have := HV.out
      rw [if_pos h2] at this
      cases this
      exact ⟨rfl, rfl, rfl⟩
    subst h2
    clear hcor hm
    go_enter Tryd.func9, Tryd.ntmps9
    go_wp2_with fail
    refine (implCorrectWord_is a n c l m hr11 (r, 2, a1) HC.out HM.out HN.out hl hc _ HA.out).mono ?_
    rintro e w2 ⟨b1, d1, rfl, hd1, own2, hb2⟩
    have HB2 := Lib.hid hb2
    clear hb2 own2
    go_wp2_with fail
    (try simp only [Exit.inBlock, Exit.then])
    refine bodyPost_ret (v := .tuple #[.int .i64 0, .int .i64 2, .int .i64 a1]) (by simp [results, Tryd.results9, go_sem]) rfl ?_
    obtain ⟨e1, e2, e3⟩ := HV2.out
    subst e1; subst e2; subst e3
    exact ⟨rfl, HB2.out⟩
  have t2 : (c1 == 2) = false := beq_eq_false_iff_ne.2 h2
  -- a word that is not lost is one of eleven symbols
  have hok : SymOk l 11 := by
    by_cases hok : SymOk l 11
    · exact hok
    · rw [corW_no hok] at hcor
      cases hcor
      exact absurd rfl h2
  have hrok : SymOk r 11 := corW_ok hok hcor
  obtain rfl : m = 11 := by have := hrok.2; omega
  obtain ⟨dd, hdd⟩ : ∃ d, dataI r = d := ⟨_, rfl⟩
  have hdr : dd = r.drop 3 := by rw [← hdd]; exact if_pos hrok
  have hdl : dd.length = 8 := by rw [hdr, List.length_drop, hm]
  have hde : SymOk dd 8 := ⟨fun z hz => hrok.1 z (List.mem_of_mem_drop (hdr ▸ hz)), by rw [hdl]; rfl⟩
  have HDD := Lib.hid hdd
  have HV2 : Hid (((wordN (nats dd) : Nat) : Int) = x ∧ c1 = cd ∧ a1 = at') := by
    have := HV.out
    rw [if_neg h2, hdd, wordS_yes hde] at this
    cases this
    exact ⟨rfl, rfl, rfl⟩
  obtain ⟨xv, hxv⟩ : ∃ v, ((wordN (nats dd) : Nat) : Int) = v := ⟨_, rfl⟩
  rw [hxv] at HV2
  obtain ⟨a0, a1', a2, a3, a4, a5, a6, a7, rfl⟩ := eightI hdl
  have HU := Lib.hid (nats_lt hde.1)
  have HUL : Hid ((nats [a0, a1', a2, a3, a4, a5, a6, a7]).length = 8) := by show _ = _; rw [nats_length]; rfl
  have HI : Hid (ints (nats [a0, a1', a2, a3, a4, a5, a6, a7]) = [a0, a1', a2, a3, a4, a5, a6, a7]) := ints_nats hde.1
  generalize nats [a0, a1', a2, a3, a4, a5, a6, a7] = u at HU HUL HI hxv
  have HXV := Lib.hid hxv
  have HDL : Hid ([a0, a1', a2, a3, a4, a5, a6, a7].length = 8) := hdl
  clear h2 hok hrok hdd hdr hdl hde hxv hcor hm HV
  go_enter Tryd.func9, Tryd.ntmps9
  go_wp2_with fail
  refine (implCorrectWord_is a n c l 11 hr11 (r, c1, a1) HC.out HM.out HN.out hl hc _ HA.out).mono ?_
  rintro e w2 ⟨b1, d1, rfl, hd1, own2, hb2⟩
  have HR2 : Hid (RowI w2 b1 r) := own2.row
  have HB2 := Lib.hid hb2
  have HD1 := Lib.hid hd1
  clear own2 hb2 hd1
  have pz := heap_alloc_new w2 (.cells #[.int .i64 0, .int .i64 0, .int .i64 0, .int .i64 0, .int .i64 0, .int .i64 0, .int .i64 0, .int .i64 0] 42)
  have hb3 : Below w2.heap.size w2 (w2.alloc (.cells #[.int .i64 0, .int .i64 0, .int .i64 0, .int .i64 0, .int .i64 0, .int .i64 0, .int .i64 0, .int .i64 0] 42)) := (Below.refl _ _).alloc (Nat.le_refl _) _
  have HB3 : Hid (Below w.heap.size w (w2.alloc (.cells #[.int .i64 0, .int .i64 0, .int .i64 0, .int .i64 0, .int .i64 0, .int .i64 0, .int .i64 0, .int .i64 0] 42))) := HB2.out.trans (hb3.mono HB2.out.size)
  have HR3 : Hid (RowI (w2.alloc (.cells #[.int .i64 0, .int .i64 0, .int .i64 0, .int .i64 0, .int .i64 0, .int .i64 0, .int .i64 0, .int .i64 0] 42)) b1 r) := HR2.out.below hb3
  have HG : Hid (w.heap.size ≤ w2.heap.size) := HB2.out.size
  clear hb3 HB2 HR2
  go_wp2_with fail
  generalize w2.alloc (.cells #[.int .i64 0, .int .i64 0, .int .i64 0, .int .i64 0, .int .i64 0, .int .i64 0, .int .i64 0, .int .i64 0] 42) = w3 at pz HB3 HR3 ⊢
  generalize w2.heap.size = ga at pz HG ⊢
  refine wp_region_float (A := ?A) [.h, .h, .t, .e] (by kernel_rfl) (by kernel_rfl) (fun _ => True) ?hC ?hH ?hT
  case hC => trivial
  case hH =>
    intro q hq
    simp only [headsOf]
    repeat (go_big_quiet_step (fail))
    refine wpQuiet_nil ?_
    exact rfl
  case hT =>
    simp only [chainT]
    have hdr : Below w3.heap.size w3 w3.drew := ⟨rfl, rfl, rfl, Nat.le_refl _, fun _ _ => rfl⟩
    have HRD : Hid (RowI w3.drew b1 r) := HR3.out.below hdr
    have HBD : Hid (Below w.heap.size w w3.drew) := HB3.out.trans (hdr.mono HB3.out.size)
    have pd : w3.drew.heap[ga]? = _ := pz
    clear pz HR3 HB3 hdr
    generalize w3.drew = w4 at *
    go_wp2_with fail
    refine (implDataOf_is b1 11 d1 r 8 (by decide) [a0, a1', a2, a3, a4, a5, a6, a7] HDD.out HDL.out HM.out (by decide) HD1.out _ HRD.out).mono ?_
    rintro e w5 ⟨b2, d2, rfl, hd2, own5, hb5⟩
    obtain ⟨gx, ox, rfl, _⟩ := own5.row.at (k := 0) (by rw [HDL.out]; decide)
    have HR5 := Lib.hid own5.row
    have p5 := keep_block hb5 pd (lt_of_block pd)
    have HB5 : Hid (Below w.heap.size w w5) := HBD.out.trans (hb5.mono HBD.out.size)
    clear own5 hb5 hd2 HRD HBD pd
    go_wp2_with fail
    refine stepQ_normal ⟨trivial, ?_⟩
    have r6 := setRow_same w5 ga #[.int .i64 a0, .int .i64 a1', .int .i64 a2, .int .i64 a3, .int .i64 a4, .int .i64 a5, .int .i64 a6, .int .i64 a7] _ _ p5
    have HB6 : Hid (Below w.heap.size w (w5.setRow ga #[.int .i64 a0, .int .i64 a1', .int .i64 a2, .int .i64 a3, .int .i64 a4, .int .i64 a5, .int .i64 a6, .int .i64 a7])) := below_setRow HB5.out HG.out _
    go_wp2_with (refine copy_arr rfl _ _ rfl ga rfl ⟨gx, ox, none⟩ d2 a0 a1' a2 a3 a4 a5 a6 a7 rfl HR5.out p5 ?_)
    refine stepQ_normal ⟨trivial, ?_⟩
    clear p5 HR5 HB5
    generalize w5.setRow ga #[.int .i64 a0, .int .i64 a1', .int .i64 a2, .int .i64 a3, .int .i64 a4, .int .i64 a5, .int .i64 a6, .int .i64 a7] = w6 at r6 HB6 ⊢
    go_wp2_with ((with_reducible refine load_list Tryd.underlying42 rfl ?_ ?_ ?_ r6 ?_); kernel_rfl; kernel_rfl; kernel_rfl; go_simp)
    refine (implWord_is u HU.out HUL.out a0 a1' a2 a3 a4 a5 a6 a7 HI.out xv HXV.out _).mono ?_
    rintro e w7 ⟨rfl, hb7⟩
    have HB7 : Hid (Below w.heap.size w w7) := HB6.out.trans (hb7.mono HB6.out.size)
    clear hb7 HB6 r6
    go_wp2_with fail
    (try simp only [Exit.inBlock, Exit.then])
    refine bodyPost_ret (v := .tuple #[.int .i64 xv, .int .i64 c1, .int .i64 a1]) (by simp [results, Tryd.results9, go_sem]) rfl ?_
    obtain ⟨e1, e2, e3⟩ := HV2.out
    subst e1; subst e2; subst e3
    exact ⟨rfl, HB7.out⟩

theorem hexd_ix0 (w : World) : (Instr.index 9 (.string { data := #[48, 49, 50, 51, 52, 53, 54, 55, 56, 57, 97, 98, 99, 100, 101, 102] }) (.int .i64 0)).run Tryd.prog w = .ok (.int .u8 ((fig 0).toNat : Int)) w := by kernel_rfl

theorem hexd_ix1 (w : World) : (Instr.index 9 (.string { data := #[48, 49, 50, 51, 52, 53, 54, 55, 56, 57, 97, 98, 99, 100, 101, 102] }) (.int .i64 1)).run Tryd.prog w = .ok (.int .u8 ((fig 1).toNat : Int)) w := by kernel_rfl

theorem hexd_ix2 (w : World) : (Instr.index 9 (.string { data := #[48, 49, 50, 51, 52, 53, 54, 55, 56, 57, 97, 98, 99, 100, 101, 102] }) (.int .i64 2)).run Tryd.prog w = .ok (.int .u8 ((fig 2).toNat : Int)) w := by kernel_rfl

theorem hexd_ix3 (w : World) : (Instr.index 9 (.string { data := #[48, 49, 50, 51, 52, 53, 54, 55, 56, 57, 97, 98, 99, 100, 101, 102] }) (.int .i64 3)).run Tryd.prog w = .ok (.int .u8 ((fig 3).toNat : Int)) w := by kernel_rfl

theorem hexd_ix4 (w : World) : (Instr.index 9 (.string { data := #[48, 49, 50, 51, 52, 53, 54, 55, 56, 57, 97, 98, 99, 100, 101, 102] }) (.int .i64 4)).run Tryd.prog w = .ok (.int .u8 ((fig 4).toNat : Int)) w := by kernel_rfl

theorem hexd_ix5 (w : World) : (Instr.index 9 (.string { data := #[48, 49, 50, 51, 52, 53, 54, 55, 56, 57, 97, 98, 99, 100, 101, 102] }) (.int .i64 5)).run Tryd.prog w = .ok (.int .u8 ((fig 5).toNat : Int)) w := by kernel_rfl

theorem hexd_ix6 (w : World) : (Instr.index 9 (.string { data := #[48, 49, 50, 51, 52, 53, 54, 55, 56, 57, 97, 98, 99, 100, 101, 102] }) (.int .i64 6)).run Tryd.prog w = .ok (.int .u8 ((fig 6).toNat : Int)) w := by kernel_rfl

theorem hexd_ix7 (w : World) : (Instr.index 9 (.string { data := #[48, 49, 50, 51, 52, 53, 54, 55, 56, 57, 97, 98, 99, 100, 101, 102] }) (.int .i64 7)).run Tryd.prog w = .ok (.int .u8 ((fig 7).toNat : Int)) w := by kernel_rfl

theorem hexd_ix8 (w : World) : (Instr.index 9 (.string { data := #[48, 49, 50, 51, 52, 53, 54, 55, 56, 57, 97, 98, 99, 100, 101, 102] }) (.int .i64 8)).run Tryd.prog w = .ok (.int .u8 ((fig 8).toNat : Int)) w := by kernel_rfl

theorem hexd_ix9 (w : World) : (Instr.index 9 (.string { data := #[48, 49, 50, 51, 52, 53, 54, 55, 56, 57, 97, 98, 99, 100, 101, 102] }) (.int .i64 9)).run Tryd.prog w = .ok (.int .u8 ((fig 9).toNat : Int)) w := by kernel_rfl

theorem hexd_ix10 (w : World) : (Instr.index 9 (.string { data := #[48, 49, 50, 51, 52, 53, 54, 55, 56, 57, 97, 98, 99, 100, 101, 102] }) (.int .i64 10)).run Tryd.prog w = .ok (.int .u8 ((fig 10).toNat : Int)) w := by kernel_rfl

theorem hexd_ix11 (w : World) : (Instr.index 9 (.string { data := #[48, 49, 50, 51, 52, 53, 54, 55, 56, 57, 97, 98, 99, 100, 101, 102] }) (.int .i64 11)).run Tryd.prog w = .ok (.int .u8 ((fig 11).toNat : Int)) w := by kernel_rfl

theorem hexd_ix12 (w : World) : (Instr.index 9 (.string { data := #[48, 49, 50, 51, 52, 53, 54, 55, 56, 57, 97, 98, 99, 100, 101, 102] }) (.int .i64 12)).run Tryd.prog w = .ok (.int .u8 ((fig 12).toNat : Int)) w := by kernel_rfl

theorem hexd_ix13 (w : World) : (Instr.index 9 (.string { data := #[48, 49, 50, 51, 52, 53, 54, 55, 56, 57, 97, 98, 99, 100, 101, 102] }) (.int .i64 13)).run Tryd.prog w = .ok (.int .u8 ((fig 13).toNat : Int)) w := by kernel_rfl

theorem hexd_ix14 (w : World) : (Instr.index 9 (.string { data := #[48, 49, 50, 51, 52, 53, 54, 55, 56, 57, 97, 98, 99, 100, 101, 102] }) (.int .i64 14)).run Tryd.prog w = .ok (.int .u8 ((fig 14).toNat : Int)) w := by kernel_rfl

theorem hexd_ix15 (w : World) : (Instr.index 9 (.string { data := #[48, 49, 50, 51, 52, 53, 54, 55, 56, 57, 97, 98, 99, 100, 101, 102] }) (.int .i64 15)).run Tryd.prog w = .ok (.int .u8 ((fig 15).toNat : Int)) w := by kernel_rfl

theorem hexd_index (k : Nat) (hk : k < 16) (w : World) : (Instr.index 9 (.string { data := #[48, 49, 50, 51, 52, 53, 54, 55, 56, 57, 97, 98, 99, 100, 101, 102] }) (.int .i64 (k : Int))).run Tryd.prog w = .ok (.int .u8 ((fig k).toNat : Int)) w :=
  match k, hk with
  | 0, _ => hexd_ix0 w
  | 1, _ => hexd_ix1 w
  | 2, _ => hexd_ix2 w
  | 3, _ => hexd_ix3 w
  | 4, _ => hexd_ix4 w
  | 5, _ => hexd_ix5 w
  | 6, _ => hexd_ix6 w
  | 7, _ => hexd_ix7 w
  | 8, _ => hexd_ix8 w
  | 9, _ => hexd_ix9 w
  | 10, _ => hexd_ix10 w
  | 11, _ => hexd_ix11 w
  | 12, _ => hexd_ix12 w
  | 13, _ => hexd_ix13 w
  | 14, _ => hexd_ix14 w
  | 15, _ => hexd_ix15 w
  | n + 16, h => absurd h (by omega)

/-- The first k figures, and zeros. -/
def figs (u : List Nat) (k : Nat) : List UInt8 := (u.take k).map fig ++ List.replicate (11 - k) 0

theorem figs_len (u : List Nat) (h : u.length = 11) {k : Nat} (hk : k ≤ 11) : (figs u k).length = 11 := by
  unfold figs
  rw [List.length_append, List.length_map, List.length_take, List.length_replicate]
  omega

theorem figs_end (u : List Nat) (h : u.length = 11) : figs u 11 = u.map fig := by
  unfold figs
  rw [List.take_of_length_le (by omega)]
  simp

theorem figs_set (u : List Nat) (h : u.length = 11) {k : Nat} (hk : k < 11) : (figs u k).set k (fig (u.getD k 0)) = figs u (k + 1) := by
  unfold figs
  obtain ⟨m, hm⟩ : ∃ m, 11 - k = m + 1 := ⟨10 - k, by omega⟩
  have hl : ((u.take k).map fig).length = k := by rw [List.length_map, List.length_take]; omega
  have hk2 : k < u.length := by omega
  rw [List.take_succ_eq_append_getElem hk2, List.map_append, hm, show 11 - (k + 1) = m by omega, List.replicate_succ, List.set_append_right _ _ (by omega), hl, Nat.sub_self, List.set_cons_zero, List.append_assoc, List.getD_eq_getElem?_getD, List.getElem?_eq_getElem hk2]
  rfl

theorem OwnB.place {B n c : Nat} {a : Option Addr} {l : List UInt8} {w : World} (h : OwnB B (.slice a n c) l w) {k : Nat} (hk : k < l.length) :
    ∃ g, a = some ⟨g, 0, none⟩ ∧ (∃ v, w.cell? ⟨g, k, none⟩ = some v) ∧ w.frozen? ⟨g, k, none⟩ = false ∧ B ≤ g ∧ g < w.heap.size := by
  have hc := fun g hg => World.ownsRow.cells h (g := g) hg k (.int .u8 (l[k].toNat : Int)) (by simp [Lib.byteCells, hk])
  rcases h.2 with ⟨_, h0⟩ | ⟨g, cap, cur, hv, hB, hh, _⟩
  · omega
  · cases hv
    refine ⟨g, rfl, ⟨.int .u8 (l[k].toNat : Int), ?_⟩, ?_, hB, lt_of_block hh⟩
    · have := hc g rfl
      rwa [Addr.add_lit, Nat.zero_add] at this
    · simp [World.frozen?, hh]

theorem OwnB.stored {B n c g : Nat} {l : List UInt8} {w : World} (h : OwnB B (.slice (some ⟨g, 0, none⟩) n c) l w) (hl : l.length = n) (k : Nat) (x : UInt8) : OwnB B (.slice (some ⟨g, 0, none⟩) n c) (l.set k x) (w.setCell ⟨g, k, none⟩ (.int .u8 (x.toNat : Int))) := by
  unfold OwnB at h ⊢
  rw [hl] at h
  have e : Lib.byteCells (l.set k x) = (Lib.byteCells l).set k (.int .u8 (x.toNat : Int)) := by unfold Lib.byteCells; rw [List.map_set]
  rw [List.length_set, e, hl]
  exact (World.ownsRow.stored h k _).1

set_option maxHeartbeats 4000000 in
set_option maxRecDepth 100000 in
theorem implFormatLine_is : IFormatLine := by
  intro a n c l v hv hn hl hc w h
  have HN := Lib.hid hn
  have HA := Lib.hid h
  by_cases hok : SymOk l 11
  case neg =>
    have KA := Lib.hid (decide_eq_false hok)
    obtain rfl : v = ⟨#[]⟩ := by rw [← hv]; exact if_neg hok
    clear hok hv hn h
    go_enter Tryd.func10, Tryd.ntmps10
    go_wp2_with fail
    refine (implSymbolsOk_is a n c l 11 false KA.out HN.out hl hc _ HA.out).mono ?_
    rintro e w2 ⟨rfl, hb2⟩
    have HB2 := Lib.hid hb2
    clear hb2
    go_wp2_with fail
    go_ret
    exact ⟨rfl, HB2.out⟩
  have KA := Lib.hid (decide_eq_true hok)
  obtain rfl : n = 11 := by have := hok.2; omega
  obtain rfl : v = ⟨((nats l).map fig).toArray⟩ := by rw [← hv]; exact if_pos hok
  have hLT := nats_lt hok.1
  have HEL : Hid (∀ k, k < 11 → l.getD k 0 = (((nats l).getD k 0 : Nat) : Int)) := fun k hk => nats_getD hok.1 (by have := HN.out; omega)
  have hul : (nats l).length = 11 := by rw [nats_length]; exact HN.out
  generalize nats l = u at hLT HEL hul
  have HLT := Lib.hid hLT
  have HUL := Lib.hid hul
  obtain ⟨i0, hi, hz0, hz1, hz2⟩ := info_parts infoB
  have HIX := Lib.hid hexd_index
  clear hok hv hLT hul hn h
  go_enter Tryd.func10, Tryd.ntmps10
  go_wp2_with fail
  refine (implSymbolsOk_is a 11 c l 11 true KA.out HN.out hl hc _ HA.out).mono ?_
  rintro e w2 ⟨rfl, hb2⟩
  have HB2 := Lib.hid hb2
  have HS2 := Lib.hid hb2.size
  clear hb2
  go_wp2_with (at_make; refine wpList_make_full _ rfl _ _ 22 rfl w2.heap.size 5 i0 (.int .u8 0) 1 Tryd.underlying22 hi hz0 hz1 _ _ _ _ 11 rfl rfl rfl rfl (by rw [hz2]; omega) (by unfold maxLen; omega) (Nat.le_refl _) ?_)
  intro w1 hown hgr
  have hb1 : Below w.heap.size w w1 := HB2.out.grown hgr HS2.out (fun k hk => by cases hk)
  have HO1 : Hid (OwnB w2.heap.size (.slice (some ⟨w2.heap.size, 0, none⟩) 11 11) (figs u 0) w1) := by
    show OwnB _ _ _ _
    unfold OwnB
    rw [made_one] at hown
    exact hown
  have HB1 := Lib.hid hb1
  have HSW := HS2.out
  clear hgr hown hb1 HB2 HS2
  generalize w2.heap.size = gs at HO1 HSW ⊢
  have HGS := Lib.hid HSW
  clear HSW
  go_wp2_with fail
  go_loopw [12] (fun i wr => ∃ k : Nat, k ≤ 11 ∧ i = .int .i64 k ∧ OwnB gs (.slice (some ⟨gs, 0, none⟩) 11 11) (figs u k) wr ∧ Below w.heap.size w wr) (fun i _ => 12 - (intOf i).toNat)
  case atStart => exact ⟨0, Nat.zero_le _, rfl, HO1.out, HB1.out⟩
  case round =>
    obtain ⟨k, hk, rfl, hown, hbr⟩ := hrel
    by_cases hlt : k < 11
    case neg =>
      obtain rfl : k = 11 := by omega
      (try rw [show ((11 : Nat) : Int) = 11 from rfl])
      rw [figs_end u HUL.out] at hown
      have hcv := hown.conv
      have HB := Lib.hid hbr
      clear hown hbr
      go_wp2_with fail
      go_ret
      exact ⟨rfl, HB.out⟩
    have hI' : (k : Int) < 11 := by omega
    have wk : IntKind.i64.wrap ((k : Int) + 1) = (k : Int) + 1 := IntWalk.i64_in _ (by omega)
    obtain ⟨g, o, rfl, ca⟩ := (HA.out.below hbr).at (k := k) (by rw [HN.out]; exact hlt)
    rw [HEL.out k hlt] at ca
    have hb : u.getD k 0 < 16 := getDn_lt HLT.out k
    have hset := figs_set u HUL.out hlt
    generalize u.getD k 0 = y at ca hb hset
    have hix := HIX.out y hb
    have hst := hown.stored (figs_len u HUL.out hk) k (fig y)
    rw [hset] at hst
    have HST := Lib.hid hst
    obtain ⟨g', hg', ⟨old, ce⟩, cf, _, _⟩ := hown.place (k := k) (by rw [figs_len u HUL.out hk]; exact hlt)
    obtain rfl : gs = g' := by simpa using hg'
    have HB3 : Hid (Below w.heap.size w (wr.setCell ⟨gs, k, none⟩ (.int .u8 ((fig y).toNat : Int)))) := hbr.setCell HGS.out _
    clear hset hst hg' hown hbr
    go_wp2_with fail
    go_roundw
    case rel => exact ⟨k + 1, by omega, by go_num, HST.out, HB3.out⟩
    case measure => simp [intOf]; omega

end Go.Proofs.YtpddinflkkcodaaDoor
