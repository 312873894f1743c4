/-
  Texts of one proof, merged: TrcL, TrcD, TrcK.
-/
import Derived.Test.YthplhjdfajhmpaaQR16
import Derived.Test.YthplhjdfajhmpaaQR17
import Derived.Maps.AppendAt
namespace Go.Proofs.Ythplhjdfajhmpaa
open Go.RowKit Go.PlainAid

set_option linter.unusedVariables false

theorem Kd.Own.frame {α : Type} {k : Kd α} {T : TypeId} {B n c : Nat} {a : Option Addr} {l : List α} {w w' : World} (h : k.Own T B (.slice a n c) l w) (hf : ∀ x, a = some x → w'.heap[x.block]? = w.heap[x.block]?) : k.Own T B (.slice a n c) l w' := by
  refine ⟨h.1, ?_⟩
  rcases h.2 with hv | ⟨b, cap, cur, hv, hB, hh, r⟩
  · exact .inl hv
  · cases hv
    exact .inr ⟨b, c, cur, rfl, hB, (hf _ rfl).trans hh, r⟩

theorem nextT_le {B : Int} {t : Tm} (ht : TimOk t) {L : List Ev} {k x M : Int} (hM : 0 ≤ M) (h : ∀ e ∈ L, e.t ≤ M) : nextT B t L k x ≤ M + 128 := by
  have h1 : gapT B t L k x ≤ M + 128 := by
    rcases gapT_is (B := B) (t := t) (L := L) (k := k) (x := x) with hz | ⟨e, he, hz⟩
    · omega
    · have := h e he
      have hr := gapR_range B t e.k e.x k x
      omega
  unfold nextT
  split
  · rename_i hk
    have hm : (actsT L).getD ((actsT L).length - 4) 0 ≤ M := by
      rw [List.getD_eq_getElem?_getD, List.getElem?_eq_getElem (by omega)]
      have hmem : (actsT L)[(actsT L).length - 4] ∈ actsT L := List.getElem_mem (by omega)
      unfold actsT at hmem
      obtain ⟨e, he, hx⟩ := List.mem_map.1 hmem
      have := h e (List.mem_filter.1 he).1
      show (actsT L)[(actsT L).length - 4] ≤ M
      unfold actsT
      rw [← hx]
      exact this
    have hf := ht.nums.2.2.2.2.2.1
    unfold In64 at hf
    omega
  · exact h1

/-- A drawn trace. -/
structure Drawn (g0 B g2 g3 : Int) (t : Tm) (N m : Nat) (L : List Ev) : Prop where
  ok : TrOk g0 B g2 g3 t N L
  few : L.length ≤ m
  low : ∀ e ∈ L, e.t ≤ 140 * (m : Int)

theorem Drawn.nil {g0 B g2 g3 : Int} {t : Tm} {N : Nat} : Drawn g0 B g2 g3 t N 0 [] := ⟨TrOk.nil, Nat.le_refl _, fun e he => by cases he⟩

theorem Drawn.same {g0 B g2 g3 : Int} {t : Tm} {N m : Nat} {L : List Ev} (h : Drawn g0 B g2 g3 t N m L) : Drawn g0 B g2 g3 t N (m + 1) L :=
  ⟨h.ok, by have := h.few; omega, fun e he => by have := h.low e he; omega⟩

theorem Drawn.more {g0 B g2 g3 : Int} {t : Tm} (ht : TimOk t) {N m : Nat} {L : List Ev} (h : Drawn g0 B g2 g3 t N m L) (hm : m ≤ 100) {k x y z p : Int} (ha : allowR g0 B g2 g3 (stL N L) (stP L) k x y z = true) (hp : 0 ≤ p ∧ p ≤ 4) :
    Drawn g0 B g2 g3 t N (m + 1) (L ++ [⟨nextT B t L k x + p, k, x, y, z⟩]) := by
  have hn := nextT_le (B := B) ht (L := L) (k := k) (x := x) (M := 140 * (m : Int)) (by omega) h.low
  have hn0 := nextT_nonneg (B := B) (t := t) (L := L) (k := k) (x := x)
  refine ⟨h.ok.more (next_ok ha (by omega) (by omega)), by have := h.few; rw [List.length_append]; simp; omega, fun e he => ?_⟩
  rcases List.mem_append.1 he with he | he
  · have := h.low e he; omega
  · obtain rfl := List.mem_singleton.1 he
    show nextT B t L k x + p ≤ _
    omega

theorem five_new {w : World} {g : Nat} {v0 v1 v2 v3 v4 : Value} (h : w.cell? ⟨g, 0, none⟩ = some v0 ∧ w.cell? ⟨g, 1, none⟩ = some v1 ∧ w.cell? ⟨g, 2, none⟩ = some v2 ∧ w.cell? ⟨g, 3, none⟩ = some v3 ∧ w.cell? ⟨g, 4, none⟩ = some v4) : ∀ j u, [v0, v1, v2, v3, v4][j]? = some u → w.cell? ((⟨g, 0, none⟩ : Addr).add j) = some u := by
  intro j u hu
  rw [Addr.add_lit, Nat.zero_add]
  match j, hu with
  | 0, hu => rw [h.1]; exact hu
  | 1, hu => rw [h.2.1]; exact hu
  | 2, hu => rw [h.2.2.1]; exact hu
  | 3, hu => rw [h.2.2.2.1]; exact hu
  | 4, hu => rw [h.2.2.2.2]; exact hu
  | j + 5, hu => simp at hu

theorem slice_block {a : Option Addr} {n c i : Nat} (h : (Value.slice a n c).ownBlock = some i) : ∃ x, a = some x ∧ x.block = i := by
  cases a with
  | none => cases h
  | some x => exact ⟨x, rfl, Option.some.inj h⟩

theorem Only.grownT {c : Nat} {a w w' : World} {row : Option Nat} (h : Only c a w) (hg : w.grownBy w' row) (hr : ∀ k, row = some k → a.heap.size ≤ k) : Only c a w' :=
  h.trans' ⟨hg.os, hg.tape, hg.output, hg.size⟩ (fun k hk hn => hg.block k (Nat.lt_of_lt_of_le hk h.size) (fun e => by have := hr k e.symm; omega))

/-- What holds as long as operation k has not come up, and what holds since it has. -/
def UnlW (k : Nat) (F : World → Prop) (listed : Array Bool) (u : World) : Prop := listed.getD k false = false → F u

def UnlX (k : Nat) (v : Value) (listed : Array Bool) (x : Nat → Value) : Prop := listed.getD k false = false → x k = v

def LstW (k : Nat) (F : Value → World → Prop) (listed : Array Bool) (x : Nat → Value) (u : World) : Prop := listed.getD k false = true → F (x k) u

def Behind2 (k i j : Nat) (listed : Array Bool) : Prop := listed.getD k false = true → listed.getD i false = true ∧ listed.getD j false = true

/-- What stays as it is while an event is drawn and appended. -/
structure TrCom (S P Q c B b2 : Nat) (gv tv cv : Array Value) (aa : Option Addr) (N cc : Nat) (l : List Bk) (pw : Int) (w u : World) : Prop where
  g : u.heap[S]? = some (.cells gv 25)
  t : u.heap[S + 1]? = some (.cells tv 27)
  r : u.heap[P]? = some (.cells #[.slice aa N cc, .int .i64 pw] 83)
  q : u.heap[Q]? = some (.cells cv 39)
  own : OwnK b2 (.slice aa N cc) l u
  cur : Cur c B u
  only : Only c w u
  lt : B ≤ c ∧ c < S ∧ S + 1 < b2 ∧ b2 ≤ P ∧ P < Q ∧ w.heap.size = S

theorem TrCom.draw {S P Q c B b2 : Nat} {gv tv cv : Array Value} {aa : Option Addr} {N cc : Nat} {l : List Bk} {pw : Int} {w u u' : World} (h : TrCom S P Q c B b2 gv tv cv aa N cc l pw w u) (hc : Cur c B u') (ho : Only c u u') : TrCom S P Q c B b2 gv tv cv aa N cc l pw w u' :=
  have hl := h.lt
  ⟨(ho.block _ (lt_of_block h.g) (by omega)).trans h.g, (ho.block _ (lt_of_block h.t) (by omega)).trans h.t, (ho.block _ (lt_of_block h.r) (by omega)).trans h.r, (ho.block _ (lt_of_block h.q) (by omega)).trans h.q, h.own.only ho (by omega), hc, h.only.trans ho, hl⟩

theorem TrCom.alloc {S P Q c B b2 : Nat} {gv tv cv : Array Value} {aa : Option Addr} {N cc : Nat} {l : List Bk} {pw : Int} {w u : World} (h : TrCom S P Q c B b2 gv tv cv aa N cc l pw w u) (o : Obj) : TrCom S P Q c B b2 gv tv cv aa N cc l pw w (u.alloc o) :=
  have hb : Below u.heap.size u (u.alloc o) := (Below.refl _ _).alloc (Nat.le_refl _) _
  ⟨keep_block hb h.g (lt_of_block h.g), keep_block hb h.t (lt_of_block h.t), keep_block hb h.r (lt_of_block h.r), keep_block hb h.q (lt_of_block h.q), h.own.below hb, h.cur.alloc _, h.only.alloc _, h.lt⟩

theorem TrCom.grown {S P Q c B b2 : Nat} {gv tv cv : Array Value} {aa : Option Addr} {N cc : Nat} {l : List Bk} {pw : Int} {w u u' : World} {ua : Option Addr} {n uc : Nat} (h : TrCom S P Q c B b2 gv tv cv aa N cc l pw w u) (hg : u.grownBy u' (Value.slice ua n uc).ownBlock)
    (hne : ∀ x, ua = some x → S + 1 < x.block ∧ x.block ≠ P ∧ x.block ≠ Q ∧ ∀ y, aa = some y → x.block ≠ y.block) : TrCom S P Q c B b2 gv tv cv aa N cc l pw w u' := by
  have hl := h.lt
  have hgb : ∀ i, i < u.heap.size → (∀ x, ua = some x → i ≠ x.block) → u'.heap[i]? = u.heap[i]? := fun i hi hn =>
    hg.block i hi (fun e => by obtain ⟨x, hx, hxi⟩ := slice_block e.symm; exact hn x hx hxi.symm)
  refine ⟨(hgb _ (lt_of_block h.g) (fun x hx => by have := hne x hx; omega)).trans h.g, (hgb _ (lt_of_block h.t) (fun x hx => by have := hne x hx; omega)).trans h.t, (hgb _ (lt_of_block h.r) (fun x hx => Ne.symm (hne x hx).2.1)).trans h.r, (hgb _ (lt_of_block h.q) (fun x hx => Ne.symm (hne x hx).2.2.1)).trans h.q, ?_, ?_, ?_, hl⟩
  · exact ownK_frame h.own (fun y hy => hgb _ (h.own.lo y hy).2 (fun x hx => Ne.symm ((hne x hx).2.2.2 y hy)))
  · exact h.cur.grown hg (fun i e => by obtain ⟨x, hx, hxi⟩ := slice_block e; have := hne x hx; omega)
  · exact h.only.grownT hg (fun i e => by obtain ⟨x, hx, hxi⟩ := slice_block e; have := hne x hx; omega)

/-- What a drawn trace leaves: a row of its own. -/
def DrewTr (g0 Bk_ g2 g3 : Int) (t : Tm) (N m c B : Nat) (w : World) (e : Ending) (w' : World) : Prop :=
  ∃ (a : Option Addr) (cap : Nat) (L : List Ev), e = .returned (.slice a L.length cap) ∧ evK.Own 41 w.heap.size (.slice a L.length cap) L w' ∧ Drawn g0 Bk_ g2 g3 t N m L ∧ Cur c B w' ∧ Only c w w'

end Go.Proofs.Ythplhjdfajhmpaa

namespace Go.Proofs.Ythplhjdfajhmpaa
open Go.RowKit Go.PlainAid

set_option linter.unusedVariables false

set_option maxHeartbeats 16000000 in
set_option maxRecDepth 100000 in
theorem l09Trace_any {c B : Nat} {w : World} (hc : Cur c B w) (t : Tm) (ht : TimOk t) (g0 Bk_ g2 g3 : Int) (hg : GeoOk g0 Bk_ g2 g3) (N : Nat) (hN : bankN g0 Bk_ g2 g3 = (N : Int)) (X : Nat) (hX : X ≤ 29) :
    Calls Try.prog 78 #[.pointer (some ⟨c, 0, none⟩), .agg #[.int .i64 g0, .int .i64 Bk_, .int .i64 g2, .int .i64 g3], .agg #[.int .i64 t.rcd, .int .i64 t.rp, .int .i64 t.ras, .int .i64 t.rrds, .int .i64 t.rrdl, .int .i64 t.faw, .int .i64 t.ccds, .int .i64 t.ccdl, .int .i64 t.rtp, .int .i64 t.wr, .int .i64 t.wtrs, .int .i64 t.wtrl, .int .i64 t.rtw, .int .i64 t.rfc, .int .i64 t.cke, .int .i64 t.xp, .int .i64 t.xs], .int .i64 (X : Int)] w (DrewTr g0 Bk_ g2 g3 t N X c B w) := by
  have hcl := hc.lt
  have hBc : B ≤ c := by obtain ⟨_, _, _, _, _, _, _, h, _⟩ := hc; exact h
  have hn8 : N ≤ 8 := by have := bankN_range g0 Bk_ g2 g3; omega
  obtain ⟨i0, hi, hz0, hz1, hz2⟩ := info_parts infoE
  obtain ⟨w1, hw1⟩ : ∃ u, (w.alloc (.cells #[.int .i64 g0, .int .i64 Bk_, .int .i64 g2, .int .i64 g3] 25)).alloc (.cells #[.int .i64 t.rcd, .int .i64 t.rp, .int .i64 t.ras, .int .i64 t.rrds, .int .i64 t.rrdl, .int .i64 t.faw, .int .i64 t.ccds, .int .i64 t.ccdl, .int .i64 t.rtp, .int .i64 t.wr, .int .i64 t.wtrs, .int .i64 t.wtrl, .int .i64 t.rtw, .int .i64 t.rfc, .int .i64 t.cke, .int .i64 t.xp, .int .i64 t.xs] 27) = u := ⟨_, rfl⟩
  have g1x : w1.heap[w.heap.size]? = some (.cells #[.int .i64 g0, .int .i64 Bk_, .int .i64 g2, .int .i64 g3] 25) := by subst hw1; exact heap_alloc2_old _ _ _
  have p1 : w1.heap[w.heap.size + 1]? = some (.cells #[.int .i64 t.rcd, .int .i64 t.rp, .int .i64 t.ras, .int .i64 t.rrds, .int .i64 t.rrdl, .int .i64 t.faw, .int .i64 t.ccds, .int .i64 t.ccdl, .int .i64 t.rtp, .int .i64 t.wr, .int .i64 t.wtrs, .int .i64 t.wtrl, .int .i64 t.rtw, .int .i64 t.rfc, .int .i64 t.cke, .int .i64 t.xp, .int .i64 t.xs] 27) := by subst hw1; exact heap_alloc2_new _ _ _
  have HC1 : Hid (Cur c B w1) := by subst hw1; exact (hc.alloc _).alloc _
  have HO1 : Hid (Only c w w1) := by subst hw1; exact ((Only.refl c w).alloc _).alloc _
  have HS1 : Hid (w1.heap.size = w.heap.size + 2) := by subst hw1; show _ = _; simp
  have HG := Lib.hid hg
  have HN := Lib.hid hN
  have HT := Lib.hid ht
  have HX := Lib.hid hX
  -- the row of events, still empty
  obtain ⟨w2, hw2⟩ : ∃ u, w1.alloc (.cells #[] 41) = u := ⟨_, rfl⟩
  have hb2 : Below w1.heap.size w1 w2 := by subst hw2; exact (Below.refl _ _).alloc (Nat.le_refl _) _
  have own2 : evK.Own 41 w1.heap.size (.slice (some ⟨w1.heap.size, 0, none⟩) 0 0) [] w2 := by subst hw2; exact World.ownsRow_made w1 #[] 0 (Nat.le_refl _) (by decide) rfl
  have HS2 : Hid (w2.heap.size = w.heap.size + 3) := by subst hw2; have := HS1.out; show _ = _; simp; omega
  have gb2 := keep_block hb2 g1x (lt_of_block g1x)
  have p2 := keep_block hb2 p1 (lt_of_block p1)
  have HC2 : Hid (Cur c B w2) := by subst hw2; exact HC1.out.alloc _
  have HO2 : Hid (Only c w w2) := by subst hw2; exact HO1.out.alloc _
  obtain ⟨v0, v1, v2, v3⟩ := cells4 gb2
  clear hc hg hN ht hX hb2 g1x p1 HC1 HO1
  go_enter Try.func78, Try.ntmps78
  go_wp2_with fail
  refine (specRankNew_is _ _ _ _ N HN.out _).mono ?_
  rintro e w3 ⟨aa, cc, rfl, own3, hb3⟩
  have gb3 := keep_block hb3 gb2 (lt_of_block gb2)
  have p3 := keep_block hb3 p2 (lt_of_block p2)
  have evs3 := own2.below hb3
  have HS3 : Hid (w2.heap.size ≤ w3.heap.size) := hb3.size
  have HC3 : Hid (Cur c B w3) := HC2.out.keep (hb3.block _ HC2.out.lt) (hb3.mono (by have := HS2.out; omega))
  have HO3 : Hid (Only c w w3) := HO2.out.past (hb3.mono (by have := HS2.out; omega))
  have HAA : Hid (∀ x, aa = some x → w2.heap.size ≤ x.block ∧ x.block < w3.heap.size) := own3.lo
  clear v0 v1 v2 v3 hb3 own2 hw1 hw2 gb2 p2 HC2 HO2
  have hb4 : Below w3.heap.size w3 (w3.alloc (.cells #[.slice aa N cc, .int .i64 0] 83)) := (Below.refl _ _).alloc (Nat.le_refl _) _
  have gb4 := keep_block hb4 gb3 (lt_of_block gb3)
  have p4 := keep_block hb4 p3 (lt_of_block p3)
  have r4 := heap_alloc_new w3 (.cells #[.slice aa N cc, .int .i64 0] 83)
  have HC4 : Hid (Cur c B (w3.alloc (.cells #[.slice aa N cc, .int .i64 0] 83))) := HC3.out.alloc _
  have HO4 : Hid (Only c w (w3.alloc (.cells #[.slice aa N cc, .int .i64 0] 83))) := HO3.out.alloc _
  have own4 := Lib.hid (own3.below hb4)
  have evs4 := Lib.hid (evs3.below hb4)
  have HS4 : Hid ((w3.alloc (.cells #[.slice aa N cc, .int .i64 0] 83)).heap.size = w3.heap.size + 1) := by show _ = _; simp
  clear hb4 own3 evs3 gb3 p3 HC3 HO3
  go_wp2_with fail
  generalize (w3.alloc (.cells #[.slice aa N cc, .int .i64 0] 83)) = w4 at gb4 p4 r4 HC4 HO4 own4 evs4 HS4 ⊢
  go_loopw [9, 11] (fun u i wr => ∃ (m : Nat) (ua : Option Addr) (uc : Nat) (L : List Ev), m ≤ X ∧ i = .int .i64 m ∧ u = .slice ua L.length uc ∧ Drawn g0 Bk_ g2 g3 t N m L ∧ wr.heap[w.heap.size]? = some (.cells #[.int .i64 g0, .int .i64 Bk_, .int .i64 g2, .int .i64 g3] 25) ∧ wr.heap[w.heap.size + 1]? = some (.cells #[.int .i64 t.rcd, .int .i64 t.rp, .int .i64 t.ras, .int .i64 t.rrds, .int .i64 t.rrdl, .int .i64 t.faw, .int .i64 t.ccds, .int .i64 t.ccdl, .int .i64 t.rtp, .int .i64 t.wr, .int .i64 t.wtrs, .int .i64 t.wtrl, .int .i64 t.rtw, .int .i64 t.rfc, .int .i64 t.cke, .int .i64 t.xp, .int .i64 t.xs] 27) ∧
      wr.heap[w3.heap.size]? = some (.cells #[.slice aa N cc, .int .i64 (stP L)] 83) ∧ OwnK w2.heap.size (.slice aa N cc) (stL N L) wr ∧ evK.Own 41 w1.heap.size (.slice ua L.length uc) L wr ∧ (∀ x, ua = some x → x.block < w2.heap.size ∨ w3.heap.size < x.block) ∧ Cur c B wr ∧ Only c w wr ∧ w4.heap.size ≤ wr.heap.size) (fun _ i _ => X - (intOf i).toNat)
  case atStart => exact ⟨0, some ⟨w1.heap.size, 0, none⟩, 0, [], Nat.zero_le _, rfl, rfl, Drawn.nil, gb4, p4, r4, own4.out, evs4.out, fun x hx => by cases hx; left; have := HS1.out; have := HS2.out; show w1.heap.size < _; omega, HC4.out, HO4.out, Nat.le_refl _⟩
  case round =>
    obtain ⟨m, ua, uc, L, hm, rfl, rfl, hdr, gr, pr, rr, ownr, evsr, hua, hcr, hor, hsr⟩ := hrel
    generalize hll : L.length = ll at evsr ⊢
    have HLL := Lib.hid hll
    have HDR := Lib.hid hdr
    have HOW := Lib.hid ownr
    have HEV := Lib.hid evsr
    have HUA := Lib.hid hua
    have HCR := Lib.hid hcr
    have HOR := Lib.hid hor
    have HSR := Lib.hid hsr
    clear hdr ownr evsr hua hcr hor hsr hll own4 evs4 gb4 p4 r4 HC4 HO4
    by_cases hlt : m < X
    case neg =>
      obtain rfl : m = X := by omega
      have tlt : decide ((m : Int) < (m : Int)) = false := decide_eq_false (by omega)
      go_wp2_with fail
      go_ret
      exact ⟨ua, uc, L, by rw [HLL.out]; rfl, by rw [HLL.out]; exact HEV.out.mono (by have := HS1.out; omega), HDR.out, HCR.out, HOR.out⟩
    have tlt : decide ((m : Int) < (X : Int)) = true := decide_eq_true (by omega)
    have HLT : Hid (m < X) := hlt
    have hm29 : m ≤ 29 := by have := HX.out; omega
    have hsz : w.heap.size + 1 < w3.heap.size := by have := HS2.out; have := HS3.out; omega
    obtain ⟨c0, c1, c2, c3⟩ := cells4 gr
    go_wp2_with fail
    refine (l06Cmd_any HCR.out _ _ _ _ HG.out).mono ?_
    rintro e w5 ⟨k, x, y, z, rfl, hcm, had, hc5, ho5⟩
    have g5 := (ho5.block _ (lt_of_block gr) (by omega)).trans gr
    have p5 := (ho5.block _ (lt_of_block pr) (by omega)).trans pr
    have r5 := (ho5.block _ (lt_of_block rr) (by omega)).trans rr
    have own5 := HOW.out.only ho5 (by have := HS2.out; omega)
    have evs5 := HEV.out.only ho5 (by have := HS1.out; omega)
    have hO5 := HOR.out.trans ho5
    have hS5 := ho5.size
    have HCM : Hid (CmOk k x y z ∧ AdOk g0 Bk_ g2 g3 x y z) := ⟨hcm, had⟩
    clear c0 c1 c2 c3 ho5 gr pr rr HOW HEV HCR HOR hcm had
    have hb6 : Below w5.heap.size w5 (w5.alloc (.cells #[.int .i64 k, .int .i64 x, .int .i64 y, .int .i64 z] 39)) := (Below.refl _ _).alloc (Nat.le_refl _) _
    have g6 := keep_block hb6 g5 (lt_of_block g5)
    have p6 := keep_block hb6 p5 (lt_of_block p5)
    have r6 := keep_block hb6 r5 (lt_of_block r5)
    have q6 := heap_alloc_new w5 (.cells #[.int .i64 k, .int .i64 x, .int .i64 y, .int .i64 z] 39)
    have HC6 : Hid (Cur c B (w5.alloc (.cells #[.int .i64 k, .int .i64 x, .int .i64 y, .int .i64 z] 39))) := hc5.alloc _
    have HO6 : Hid (Only c w (w5.alloc (.cells #[.int .i64 k, .int .i64 x, .int .i64 y, .int .i64 z] 39))) := hO5.alloc _
    have OW6 := Lib.hid (own5.below hb6)
    have EV6 := Lib.hid (evs5.below hb6)
    have HUB : Hid (∀ x, ua = some x → x.block ≠ w5.heap.size) := fun x hx => by have := (evs5.lo x hx).2; omega
    have HQ : Hid (w4.heap.size ≤ w5.heap.size) := Nat.le_trans HSR.out hS5
    have HS6 : Hid ((w5.alloc (.cells #[.int .i64 k, .int .i64 x, .int .i64 y, .int .i64 z] 39)).heap.size = w5.heap.size + 1) := by show _ = _; simp
    obtain ⟨d0, d1⟩ := cells2 r6
    obtain ⟨e0, e1, e2, e3⟩ := cells4 q6
    clear hb6 g5 p5 r5 own5 evs5 hO5 hS5 hc5 HSR
    obtain ⟨mv, hmv⟩ : ∃ mv, mayR (stL N L) (stP L) k x = mv := ⟨_, rfl⟩
    have HMV := Lib.hid hmv
    have HKK : Hid (1 ≤ k ∧ k ≤ 9) := HCM.out.1.1
    have HXX : Hid (0 ≤ x ∧ x < (N : Int)) := by have h := HCM.out.2.1; rw [HN.out] at h; show 0 ≤ x ∧ x < _; omega
    clear hmv
    by_cases h5 : 5 < k
    case pos =>
      by_cases hp0 : stP L = 0
      case pos =>
        have t5 : decide ((5 : Int) < k) = true := decide_eq_true h5
        have tp : (stP L == 0) = true := by simp [hp0]
        go_wp2_with fail
        clear t5 tp h5 hp0 d0 d1 e0 e1 e2 e3
        generalize (w5.alloc (.cells #[.int .i64 k, .int .i64 x, .int .i64 y, .int .i64 z] 39)) = w6 at g6 p6 r6 q6 HC6 HO6 OW6 EV6 HS6 ⊢
        refine (l01Once_any HC6.out 4 (by omega)).mono ?_
        rintro e w7 ⟨ob, rfl, hc7, ho7⟩
        have hQ := HQ.out
        have hS4 := HS4.out
        have g7 := (ho7.block _ (lt_of_block g6) (by omega)).trans g6
        have p7 := (ho7.block _ (lt_of_block p6) (by omega)).trans p6
        have r7 := (ho7.block _ (lt_of_block r6) (by omega)).trans r6
        have q7 := (ho7.block _ (lt_of_block q6) (by omega)).trans q6
        have OW7 := Lib.hid (OW6.out.only ho7 (by have := HS2.out; omega))
        have EV7 := Lib.hid (EV6.out.only ho7 (by have := HS1.out; omega))
        have HC7 := Lib.hid hc7
        have HO7 := Lib.hid (HO6.out.trans ho7)
        have HS7 : Hid (w5.heap.size < w7.heap.size) := by have := ho7.size; have := HS6.out; show _ < _; omega
        clear hc7 ho7 g6 p6 r6 q6 OW6 EV6 HC6 HO6 HS6 hQ hS4
        cases ob
        case false =>
          go_wp2_with fail
          go_roundw
          case rel => exact ⟨m + 1, ua, uc, L, by have := HLT.out; omega, by go_num, by rw [HLL.out], HDR.out.same, g7, p7, r7, OW7.out, by rw [HLL.out]; exact EV7.out, HUA.out, HC7.out, HO7.out, by have := HS7.out; have := HQ.out; omega⟩
          case measure => have := HLT.out; simp [intOf]; omega
        case true =>
          obtain ⟨d0, d1⟩ := cells2 r7
          obtain ⟨e0, e1, e2, e3⟩ := cells4 q7
          go_wp2_with fail
          refine (specMay_is aa N cc (stL N L) (stP L) k x y z mv HMV.out HKK.out (fun _ => HXX.out) (stL_length _ _) (by omega) _ OW7.out.row).mono ?_
          rintro e w8 ⟨rfl, hb8⟩
          have g8 := keep_block hb8 g7 (lt_of_block g7)
          have p8 := keep_block hb8 p7 (lt_of_block p7)
          have r8 := keep_block hb8 r7 (lt_of_block r7)
          have q8 := keep_block hb8 q7 (lt_of_block q7)
          have OW8 := Lib.hid (OW7.out.below hb8)
          have EV8 := Lib.hid (EV7.out.below hb8)
          have HC8 : Hid (Cur c B w8) := HC7.out.keep (hb8.block _ HC7.out.lt) (hb8.mono (by have := HC7.out.lt; omega))
          have HO8 : Hid (Only c w w8) := HO7.out.past (hb8.mono HO7.out.size)
          have HS8 : Hid (w5.heap.size < w8.heap.size) := Nat.lt_of_lt_of_le HS7.out hb8.size
          clear hb8 g7 p7 r7 q7 OW7 EV7 HC7 HO7 HS7 d0 d1 e0 e1 e2 e3
          cases mv
          case false =>
            go_wp2_with fail
            go_roundw
            case rel => exact ⟨m + 1, ua, uc, L, by have := HLT.out; omega, by go_num, by rw [HLL.out], HDR.out.same, g8, p8, r8, OW8.out, by rw [HLL.out]; exact EV8.out, HUA.out, HC8.out, HO8.out, by have := HS8.out; have := HQ.out; omega⟩
            case measure => have := HLT.out; simp [intOf]; omega
          have HLN : Hid (ll ≤ m) := by have := HDR.out.few; have := HLL.out; show _ ≤ _; omega
          obtain ⟨hrk, _⟩ := st_ok HG.out HN.out HDR.out.ok
          have HAL : Hid (allowR g0 Bk_ g2 g3 (stL N L) (stP L) k x y z = true) := by
            show _ = _
            unfold allowR
            rw [HMV.out, decide_eq_true ⟨hrk, HCM.out.1, HCM.out.2⟩]
            rfl
          have hnx := nextT_le (B := Bk_) HT.out (L := L) (k := k) (x := x) (M := 140 * (m : Int)) (by omega) HDR.out.low
          have hnx0 := nextT_nonneg (B := Bk_) (t := t) (L := L) (k := k) (x := x)
          obtain ⟨at', hat'⟩ : ∃ at', nextT Bk_ t L k x = at' := ⟨_, rfl⟩
          have HAT := Lib.hid hat'
          rw [hat'] at hnx hnx0
          have hXl := HX.out
          have hLT := HLT.out
          have HEA : Hid (earlyF g0 Bk_ g2 g3 t N L k x y z = at') := by
            show _ = _
            unfold earlyF
            rw [if_pos ⟨⟨by unfold traceF; rw [if_pos ⟨HG.out, HT.out, by have := HLN.out; have := HLL.out; omega⟩]; exact HDR.out.ok, HAL.out, by have := HLN.out; have := HLL.out; omega⟩, by rw [hat']; omega⟩]
            exact hat'
          have t9 : decide (at' < 0) = false := decide_eq_false (by omega)
          have HAR : Hid (0 ≤ at' ∧ at' ≤ 140 * 29 + 128) := ⟨hnx0, by omega⟩
          have HUQ : Hid (∀ x, ua = some x → x.block ≠ w5.heap.size) := HUB.out
          clear hrk hat' hnx hnx0
          obtain ⟨c0, c1, c2, c3⟩ := cells4 g8
          obtain ⟨e0, e1, e2, e3⟩ := cells4 q8
          go_wp2_with ((with_reducible refine ld_tm ?_ ?_ p8 ?_); kernel_rfl; kernel_rfl; go_simp)
          refine (specEarly_of (Lib.hid specEnd_is) t g0 Bk_ g2 g3 ua ll uc L k x y z N HN.out at' HEA.out HLL.out (by have := HLN.out; omega) EV8.out.cap.1 _ EV8.out.row).mono ?_
          rintro e w9 ⟨rfl, hb9⟩
          have g9 := keep_block hb9 g8 (lt_of_block g8)
          have p9 := keep_block hb9 p8 (lt_of_block p8)
          have r9 := keep_block hb9 r8 (lt_of_block r8)
          have q9 := keep_block hb9 q8 (lt_of_block q8)
          have own9 := OW8.out.below hb9
          have EV9 := Lib.hid (EV8.out.below hb9)
          have HC9 : Hid (Cur c B w9) := HC8.out.keep (hb9.block _ HC8.out.lt) (hb9.mono (by have := HC8.out.lt; omega))
          have HO9 : Hid (Only c w w9) := HO8.out.past (hb9.mono HO8.out.size)
          have HS9 : Hid (w5.heap.size < w9.heap.size) := Nat.lt_of_lt_of_le HS8.out hb9.size
          clear hb9 g8 p8 r8 q8 OW8 EV8 HC8 HO8 HS8 c0 c1 c2 c3 e0 e1 e2 e3
          have HDO := Lib.hid (specDoX_is (B := w2.heap.size) (P := w3.heap.size) (y := y) (z := z) HKK.out (fun _ => HXX.out) (stL_length N L) (by omega) r9 own9 (fun x hx => by have := (HAA.out x hx).2; omega) HS3.out)
          obtain ⟨e0, e1, e2, e3⟩ := cells4 q9
          go_wp2_with fail
          refine HDO.out.mono ?_
          rintro e w10 ⟨rfl, r10, own10, hb10, hf10⟩
          have hS2 := HS2.out
          have g10 := keep_block hb10 g9 (by omega)
          have p10 := keep_block hb10 p9 (by omega)
          have q10 := (hf10 w5.heap.size HS9.out (by have := HQ.out; have := HS4.out; omega) (fun x hx => by have := (HAA.out x hx).2; have := HQ.out; have := HS4.out; omega)).trans q9
          have EV10 : Hid (evK.Own 41 w1.heap.size (.slice ua ll uc) L w10) := EV9.out.frame (fun x hx => by
            rcases HUA.out x hx with h | h
            · exact hb10.block _ h
            · exact hf10 _ (EV9.out.lo x hx).2 (by omega) (fun y hy => by have := (HAA.out y hy).2; omega))
          have HC10 : Hid (Cur c B w10) := HC9.out.keep (hb10.block _ (by omega)) (hb10.mono (by omega))
          have HO10 : Hid (Only c w w10) := HO9.out.past (hb10.mono (by omega))
          have HS10 : Hid (w5.heap.size < w10.heap.size) := lt_of_block q10
          have OW10 := Lib.hid own10
          clear hb10 hf10 own10 own9 g9 p9 r9 q9 EV9 HC9 HO9 HS9 HDO e0 e1 e2 e3 hS2
          have HC0 : Hid (TrCom w.heap.size w3.heap.size w5.heap.size c B w2.heap.size #[.int .i64 g0, .int .i64 Bk_, .int .i64 g2, .int .i64 g3] #[.int .i64 t.rcd, .int .i64 t.rp, .int .i64 t.ras, .int .i64 t.rrds, .int .i64 t.rrdl, .int .i64 t.faw, .int .i64 t.ccds, .int .i64 t.ccdl, .int .i64 t.rtp, .int .i64 t.wr, .int .i64 t.wtrs, .int .i64 t.wtrl, .int .i64 t.rtw, .int .i64 t.rfc, .int .i64 t.cke, .int .i64 t.xp, .int .i64 t.xs] #[.int .i64 k, .int .i64 x, .int .i64 y, .int .i64 z] aa N cc (doL (stL N L) k x y) (doP (stP L) k) w w10) := ⟨g10, p10, r10, q10, OW10.out, HC10.out, HO10.out, ⟨hBc, hcl, by have := HS2.out; omega, HS3.out, by have := HQ.out; have := HS4.out; omega, rfl⟩⟩
          have HDM : Hid (∀ p : Int, 0 ≤ p ∧ p ≤ 4 → Drawn g0 Bk_ g2 g3 t N (m + 1) (L ++ [⟨at' + p, k, x, y, z⟩])) := fun p hp => by
            rw [← HAT.out]
            exact HDR.out.more HT.out (by have := HX.out; have := HLT.out; omega) HAL.out hp
          clear g10 p10 r10 q10 OW10 HC10 HO10 HS10
          go_wp2_with fail
          refine wp_region_flowG (fun i' => match i' with | 0 => some (.slice ua ll uc) | 1 => some (.int .i64 at') | 2 => some (.pointer (some ⟨c, 0, none⟩)) | 4 => some (.pointer (some ⟨c, 0, none⟩)) | 8 => some (.agg #[.int .i64 k, .int .i64 x, .int .i64 y, .int .i64 z]) | _ => none) (fun listed X' u => TrCom w.heap.size w3.heap.size w5.heap.size c B w2.heap.size #[.int .i64 g0, .int .i64 Bk_, .int .i64 g2, .int .i64 g3] #[.int .i64 t.rcd, .int .i64 t.rp, .int .i64 t.ras, .int .i64 t.rrds, .int .i64 t.rrdl, .int .i64 t.faw, .int .i64 t.ccds, .int .i64 t.ccdl, .int .i64 t.rtp, .int .i64 t.wr, .int .i64 t.wtrs, .int .i64 t.wtrl, .int .i64 t.rtw, .int .i64 t.rfc, .int .i64 t.cke, .int .i64 t.xp, .int .i64 t.xs] #[.int .i64 k, .int .i64 x, .int .i64 y, .int .i64 z] aa N cc (doL (stL N L) k x y) (doP (stP L) k) w u ∧ UnlW 11 (fun u => evK.Own 41 w1.heap.size (.slice ua ll uc) L u) listed u ∧ UnlX 12 (.slice ua ll uc) listed X' ∧ Behind2 12 11 0 listed ∧ Fact 3 (fun q => ∃ b : Int, q = .int .i64 b ∧ (0 ≤ b ∧ b ≤ 1)) listed X' ∧ Fact 5 (fun q => ∃ b : Int, q = .int .i64 b ∧ (0 ≤ b ∧ b ≤ 4)) listed X' ∧ Fact 6 (fun q => ∃ b : Int, q = .int .i64 b ∧ (0 ≤ b ∧ b ≤ 4)) listed X' ∧ Fact 7 (fun q => ∃ p : Int, q = .int .i64 (at' + p) ∧ (0 ≤ p ∧ p ≤ 4)) listed X' ∧ Fact 9 (fun q => ∃ p : Int, q = .agg #[.int .i64 (at' + p), .int .i64 k, .int .i64 x, .int .i64 y, .int .i64 z] ∧ (0 ≤ p ∧ p ≤ 4)) listed X' ∧ FactW 10 11 (fun q u => ∃ (p : Int) (g : Nat), q = .slice (some ⟨g, 0, none⟩) 1 1 ∧ (0 ≤ p ∧ p ≤ 4) ∧ w5.heap.size < g ∧ u.heap[g]? = some (.cells #[.int .i64 (at' + p), .int .i64 k, .int .i64 x, .int .i64 y, .int .i64 z] 41)) listed X' u ∧ LstW 11 (fun q u => ∃ (p : Int) (va : Option Addr) (vc : Nat), q = .slice va (ll + 1) vc ∧ (0 ≤ p ∧ p ≤ 4) ∧ evK.Own 41 w1.heap.size (.slice va (ll + 1) vc) (L ++ [⟨at' + p, k, x, y, z⟩]) u ∧ ∀ x, va = some x → x.block < w2.heap.size ∨ w3.heap.size < x.block) listed X' u ∧ LstW 12 (fun q u => ∃ (p : Int) (va : Option Addr) (vc : Nat), q = .slice va (ll + 1) vc ∧ (0 ≤ p ∧ p ≤ 4) ∧ evK.Own 41 w1.heap.size (.slice va (ll + 1) vc) (L ++ [⟨at' + p, k, x, y, z⟩]) u ∧ ∀ x, va = some x → x.block < w2.heap.size ∨ w3.heap.size < x.block) listed X' u) (upd (upd (upd (upd (upd (upd (upd (upd (upd (upd (upd (upd (upd (fun _ => undef) 0 u53) 1 u54) 2 u55) 3 u56) 4 u57) 5 u58) 6 u59) 7 u60) 8 u61) 9 u62) 10 u63) 11 u64) 12 (.slice ua ll uc)) (by kernel_rfl) (by kernel_rfl) ?hx ?hS ?hs ?he
          case hx => simp only [putsX, Act.put, List.setIfInBounds_toArray, List.set_cons_zero, List.set_cons_succ, upd, Nat.reduceEqDiff, reduceIte]
          case hS => exact ⟨⟨HC0.out.g, HC0.out.t, HC0.out.r, HC0.out.q, HC0.out.own, HC0.out.cur, HC0.out.only.drew, HC0.out.lt⟩, fun _ => EV10.out, fun _ => rfl, fun h => (by rw [getD_replicate_false] at h; cases h), Fact.zero _ _ _ _, Fact.zero _ _ _ _, Fact.zero _ _ _ _, Fact.zero _ _ _ _, Fact.zero _ _ _ _, FactW.zero _ _ _ _ _ _, (fun h => by rw [getD_replicate_false] at h; cases h), (fun h => by rw [getD_replicate_false] at h; cases h)⟩
          case hs =>
            simp only [flowSteps]
            refine ⟨?s0, ?s1, ?s2, ?s3, ?s4, ?s5, ?s6, ?s7, ?s8, ?s9, ?s10, ?s11, ?s12, trivial⟩
            case s0 =>
              intro listed bb u hsz hn hwt hinv
              obtain ⟨X', rfl, hU, hW, hE, hX, hL, h3, h5, h6, h7, h9, hA, hB, hD⟩ := hinv
              simp only [putsX, Act.put, List.setIfInBounds_toArray, List.set_cons_zero, List.set_cons_succ]
              have hx12 := Lib.hid (hX (by
                cases h12 : listed.getD 12 false
                · rfl
                · have := (hL h12).2
                  rw [hn] at this
                  cases this))
              rw [hx12.out]
              go_wp2_with fail
              refine stepQ_normal ⟨trivial, upd X' 0 (.slice ua ll uc), ?_, hU.step (fun _ h => Option.some.inj h), hW, (fun h => by have h' : listed.getD 11 false = false := (by rwa [getD_set_ne false (by decide)] at h); exact hE h'), (fun h => by rw [upd_other _ _ (by decide)]; exact hX (by rwa [getD_set_ne false (by decide)] at h)), (fun h => by have h' := hL (by rwa [getD_set_ne false (by decide)] at h); exact ⟨getD_set_true h'.1, getD_set_true h'.2⟩), h3.keep (by decide) _, h5.keep (by decide) _, h6.keep (by decide) _, h7.keep (by decide) _, h9.keep (by decide) _, hA.keep (by decide) (by decide) _ id, (fun h => by rw [upd_other _ _ (by decide)]; exact id (hB (by rwa [getD_set_ne false (by decide)] at h))), (fun h => by rw [upd_other _ _ (by decide)]; exact id (hD (by rwa [getD_set_ne false (by decide)] at h)))⟩
              simp only [upd]
              simp only [hx12.out]
              (try rfl)
            case s1 =>
              intro listed bb u hsz hn hwt hinv
              obtain ⟨X', rfl, hU, hW, hE, hX, hL, h3, h5, h6, h7, h9, hA, hB, hD⟩ := hinv
              simp only [putsX, Act.put, List.setIfInBounds_toArray, List.set_cons_zero, List.set_cons_succ]
              go_wp2_with fail
              refine stepQ_normal ⟨trivial, upd X' 1 (.int .i64 at'), ?_, hU.step (fun _ h => Option.some.inj h), hW, (fun h => by have h' : listed.getD 11 false = false := (by rwa [getD_set_ne false (by decide)] at h); exact hE h'), (fun h => by rw [upd_other _ _ (by decide)]; exact hX (by rwa [getD_set_ne false (by decide)] at h)), (fun h => by have h' := hL (by rwa [getD_set_ne false (by decide)] at h); exact ⟨getD_set_true h'.1, getD_set_true h'.2⟩), h3.keep (by decide) _, h5.keep (by decide) _, h6.keep (by decide) _, h7.keep (by decide) _, h9.keep (by decide) _, hA.keep (by decide) (by decide) _ id, (fun h => by rw [upd_other _ _ (by decide)]; exact id (hB (by rwa [getD_set_ne false (by decide)] at h))), (fun h => by rw [upd_other _ _ (by decide)]; exact id (hD (by rwa [getD_set_ne false (by decide)] at h)))⟩
              simp only [upd]
              (try rfl)
            case s2 =>
              intro listed bb u hsz hn hwt hinv
              obtain ⟨X', rfl, hU, hW, hE, hX, hL, h3, h5, h6, h7, h9, hA, hB, hD⟩ := hinv
              simp only [putsX, Act.put, List.setIfInBounds_toArray, List.set_cons_zero, List.set_cons_succ]
              go_wp2_with fail
              refine stepQ_normal ⟨trivial, upd X' 2 (.pointer (some ⟨c, 0, none⟩)), ?_, hU.step (fun _ h => Option.some.inj h), hW, (fun h => by have h' : listed.getD 11 false = false := (by rwa [getD_set_ne false (by decide)] at h); exact hE h'), (fun h => by rw [upd_other _ _ (by decide)]; exact hX (by rwa [getD_set_ne false (by decide)] at h)), (fun h => by have h' := hL (by rwa [getD_set_ne false (by decide)] at h); exact ⟨getD_set_true h'.1, getD_set_true h'.2⟩), h3.keep (by decide) _, h5.keep (by decide) _, h6.keep (by decide) _, h7.keep (by decide) _, h9.keep (by decide) _, hA.keep (by decide) (by decide) _ id, (fun h => by rw [upd_other _ _ (by decide)]; exact id (hB (by rwa [getD_set_ne false (by decide)] at h))), (fun h => by rw [upd_other _ _ (by decide)]; exact id (hD (by rwa [getD_set_ne false (by decide)] at h)))⟩
              simp only [upd]
              (try rfl)
            case s3 =>
              intro listed bb u hsz hn hwt hinv
              obtain ⟨X', rfl, hU, hW, hE, hX, hL, h3, h5, h6, h7, h9, hA, hB, hD⟩ := hinv
              have f2 := Lib.hid (hU 2 _ rfl (hwt 2 (by kernel_rfl)))
              simp only [putsX, Act.put, List.setIfInBounds_toArray, List.set_cons_zero, List.set_cons_succ]
              have hcall : Calls Try.prog 79 #[X' 2, .int .i64 2] u (Drew c B 0 (topOf 2) u) := by rw [f2.out]; exact l01Below_any hW.cur 2 (by omega)
              go_wp2_with fail
              refine hcall.mono ?_
              rintro e' u' ⟨b, rfl, hl, hu, hc, ho⟩
              rw [topOf_pos (by omega)] at hu
              go_wp2_with fail
              refine stepQ_normal ⟨trivial, upd X' 3 (.int .i64 b), ?_, hU.step (fun _ h => by cases h), hW.draw hc ho, (fun h => by have h' : listed.getD 11 false = false := (by rwa [getD_set_ne false (by decide)] at h); exact (hE h').only ho (by have := hW.lt; have := HS1.out; omega)), (fun h => by rw [upd_other _ _ (by decide)]; exact hX (by rwa [getD_set_ne false (by decide)] at h)), (fun h => by have h' := hL (by rwa [getD_set_ne false (by decide)] at h); exact ⟨getD_set_true h'.1, getD_set_true h'.2⟩), Fact.new ⟨b, rfl, by omega⟩, h5.keep (by decide) _, h6.keep (by decide) _, h7.keep (by decide) _, h9.keep (by decide) _, hA.keep (by decide) (by decide) _ (fun ⟨p, g, a1, a2, a3, a4⟩ => ⟨p, g, a1, a2, a3, (ho.block _ (lt_of_block a4) (by have := hW.lt; omega)).trans a4⟩), (fun h => by rw [upd_other _ _ (by decide)]; exact (fun ⟨p, va, vc, a1, a2, a3, a4⟩ => ⟨p, va, vc, a1, a2, a3.only ho (by have := hW.lt; have := HS1.out; omega), a4⟩) (hB (by rwa [getD_set_ne false (by decide)] at h))), (fun h => by rw [upd_other _ _ (by decide)]; exact (fun ⟨p, va, vc, a1, a2, a3, a4⟩ => ⟨p, va, vc, a1, a2, a3.only ho (by have := hW.lt; have := HS1.out; omega), a4⟩) (hD (by rwa [getD_set_ne false (by decide)] at h)))⟩
              simp only [upd]
              (try rfl)
            case s4 =>
              intro listed bb u hsz hn hwt hinv
              obtain ⟨X', rfl, hU, hW, hE, hX, hL, h3, h5, h6, h7, h9, hA, hB, hD⟩ := hinv
              simp only [putsX, Act.put, List.setIfInBounds_toArray, List.set_cons_zero, List.set_cons_succ]
              go_wp2_with fail
              refine stepQ_normal ⟨trivial, upd X' 4 (.pointer (some ⟨c, 0, none⟩)), ?_, hU.step (fun _ h => Option.some.inj h), hW, (fun h => by have h' : listed.getD 11 false = false := (by rwa [getD_set_ne false (by decide)] at h); exact hE h'), (fun h => by rw [upd_other _ _ (by decide)]; exact hX (by rwa [getD_set_ne false (by decide)] at h)), (fun h => by have h' := hL (by rwa [getD_set_ne false (by decide)] at h); exact ⟨getD_set_true h'.1, getD_set_true h'.2⟩), h3.keep (by decide) _, h5.keep (by decide) _, h6.keep (by decide) _, h7.keep (by decide) _, h9.keep (by decide) _, hA.keep (by decide) (by decide) _ id, (fun h => by rw [upd_other _ _ (by decide)]; exact id (hB (by rwa [getD_set_ne false (by decide)] at h))), (fun h => by rw [upd_other _ _ (by decide)]; exact id (hD (by rwa [getD_set_ne false (by decide)] at h)))⟩
              simp only [upd]
              (try rfl)
            case s5 =>
              intro listed bb u hsz hn hwt hinv
              obtain ⟨X', rfl, hU, hW, hE, hX, hL, h3, h5, h6, h7, h9, hA, hB, hD⟩ := hinv
              have f4 := Lib.hid (hU 4 _ rfl (hwt 4 (by kernel_rfl)))
              simp only [putsX, Act.put, List.setIfInBounds_toArray, List.set_cons_zero, List.set_cons_succ]
              have hcall : Calls Try.prog 79 #[X' 4, .int .i64 5] u (Drew c B 0 (topOf 5) u) := by rw [f4.out]; exact l01Below_any hW.cur 5 (by omega)
              go_wp2_with fail
              refine hcall.mono ?_
              rintro e' u' ⟨b, rfl, hl, hu, hc, ho⟩
              rw [topOf_pos (by omega)] at hu
              go_wp2_with fail
              refine stepQ_normal ⟨trivial, upd X' 5 (.int .i64 b), ?_, hU.step (fun _ h => by cases h), hW.draw hc ho, (fun h => by have h' : listed.getD 11 false = false := (by rwa [getD_set_ne false (by decide)] at h); exact (hE h').only ho (by have := hW.lt; have := HS1.out; omega)), (fun h => by rw [upd_other _ _ (by decide)]; exact hX (by rwa [getD_set_ne false (by decide)] at h)), (fun h => by have h' := hL (by rwa [getD_set_ne false (by decide)] at h); exact ⟨getD_set_true h'.1, getD_set_true h'.2⟩), h3.keep (by decide) _, Fact.new ⟨b, rfl, by omega⟩, h6.keep (by decide) _, h7.keep (by decide) _, h9.keep (by decide) _, hA.keep (by decide) (by decide) _ (fun ⟨p, g, a1, a2, a3, a4⟩ => ⟨p, g, a1, a2, a3, (ho.block _ (lt_of_block a4) (by have := hW.lt; omega)).trans a4⟩), (fun h => by rw [upd_other _ _ (by decide)]; exact (fun ⟨p, va, vc, a1, a2, a3, a4⟩ => ⟨p, va, vc, a1, a2, a3.only ho (by have := hW.lt; have := HS1.out; omega), a4⟩) (hB (by rwa [getD_set_ne false (by decide)] at h))), (fun h => by rw [upd_other _ _ (by decide)]; exact (fun ⟨p, va, vc, a1, a2, a3, a4⟩ => ⟨p, va, vc, a1, a2, a3.only ho (by have := hW.lt; have := HS1.out; omega), a4⟩) (hD (by rwa [getD_set_ne false (by decide)] at h)))⟩
              simp only [upd]
              (try rfl)
            case s6 =>
              intro listed bb u hsz hn hwt hinv
              obtain ⟨X', rfl, hU, hW, hE, hX, hL, h3, h5, h6, h7, h9, hA, hB, hD⟩ := hinv
              simp only [putsX, Act.put, List.setIfInBounds_toArray, List.set_cons_zero, List.set_cons_succ]
              obtain ⟨b1, e1, hb1⟩ := h3 (hwt 3 (by kernel_rfl))
              obtain ⟨b2, e2, hb2⟩ := h5 (hwt 5 (by kernel_rfl))
              have E1 := Lib.hid e1
              have E2 := Lib.hid e2
              rw [E1.out, E2.out]
              clear e1 e2
              have hmul : 0 ≤ b1 * b2 ∧ b1 * b2 ≤ 4 := by
                have : b1 = 0 ∨ b1 = 1 := by omega
                rcases this with rfl | rfl <;> omega
              have m1 : IntKind.i64.wrap (b1 * b2) = b1 * b2 := IntWalk.i64_in _ (by omega)
              have HM := Lib.hid hmul
              clear hmul hb1 hb2
              go_wp2_with fail
              refine stepQ_normal ⟨trivial, upd X' 6 (.int .i64 (b1 * b2)), ?_, hU.step (fun _ h => by cases h), hW, (fun h => by have h' : listed.getD 11 false = false := (by rwa [getD_set_ne false (by decide)] at h); exact hE h'), (fun h => by rw [upd_other _ _ (by decide)]; exact hX (by rwa [getD_set_ne false (by decide)] at h)), (fun h => by have h' := hL (by rwa [getD_set_ne false (by decide)] at h); exact ⟨getD_set_true h'.1, getD_set_true h'.2⟩), h3.keep (by decide) _, h5.keep (by decide) _, Fact.new ⟨b1 * b2, rfl, HM.out⟩, h7.keep (by decide) _, h9.keep (by decide) _, hA.keep (by decide) (by decide) _ id, (fun h => by rw [upd_other _ _ (by decide)]; exact id (hB (by rwa [getD_set_ne false (by decide)] at h))), (fun h => by rw [upd_other _ _ (by decide)]; exact id (hD (by rwa [getD_set_ne false (by decide)] at h)))⟩
              simp only [upd]
              simp only [E1.out, E2.out]
              (try rfl)
            case s7 =>
              intro listed bb u hsz hn hwt hinv
              obtain ⟨X', rfl, hU, hW, hE, hX, hL, h3, h5, h6, h7, h9, hA, hB, hD⟩ := hinv
              have f1 := Lib.hid (hU 1 _ rfl (hwt 1 (by kernel_rfl)))
              simp only [putsX, Act.put, List.setIfInBounds_toArray, List.set_cons_zero, List.set_cons_succ]
              rw [f1.out]
              obtain ⟨p, e1, hp⟩ := h6 (hwt 6 (by kernel_rfl))
              have E1 := Lib.hid e1
              have HP := Lib.hid hp
              rw [E1.out]
              clear e1 hp
              have m1 : IntKind.i64.wrap (at' + p) = at' + p := IntWalk.i64_in _ (by have := HAR.out; have := HP.out; omega)
              go_wp2_with fail
              refine stepQ_normal ⟨trivial, upd X' 7 (.int .i64 (at' + p)), ?_, hU.step (fun _ h => by cases h), hW, (fun h => by have h' : listed.getD 11 false = false := (by rwa [getD_set_ne false (by decide)] at h); exact hE h'), (fun h => by rw [upd_other _ _ (by decide)]; exact hX (by rwa [getD_set_ne false (by decide)] at h)), (fun h => by have h' := hL (by rwa [getD_set_ne false (by decide)] at h); exact ⟨getD_set_true h'.1, getD_set_true h'.2⟩), h3.keep (by decide) _, h5.keep (by decide) _, h6.keep (by decide) _, Fact.new ⟨p, rfl, HP.out⟩, h9.keep (by decide) _, hA.keep (by decide) (by decide) _ id, (fun h => by rw [upd_other _ _ (by decide)]; exact id (hB (by rwa [getD_set_ne false (by decide)] at h))), (fun h => by rw [upd_other _ _ (by decide)]; exact id (hD (by rwa [getD_set_ne false (by decide)] at h)))⟩
              simp only [upd]
              simp only [f1.out, E1.out]
              (try rfl)
            case s8 =>
              intro listed bb u hsz hn hwt hinv
              obtain ⟨X', rfl, hU, hW, hE, hX, hL, h3, h5, h6, h7, h9, hA, hB, hD⟩ := hinv
              simp only [putsX, Act.put, List.setIfInBounds_toArray, List.set_cons_zero, List.set_cons_succ]
              obtain ⟨e0, e1, e2, e3⟩ := cells4 hW.q
              go_wp2_with fail
              refine stepQ_normal ⟨trivial, upd X' 8 (.agg #[.int .i64 k, .int .i64 x, .int .i64 y, .int .i64 z]), ?_, hU.step (fun _ h => Option.some.inj h), hW, (fun h => by have h' : listed.getD 11 false = false := (by rwa [getD_set_ne false (by decide)] at h); exact hE h'), (fun h => by rw [upd_other _ _ (by decide)]; exact hX (by rwa [getD_set_ne false (by decide)] at h)), (fun h => by have h' := hL (by rwa [getD_set_ne false (by decide)] at h); exact ⟨getD_set_true h'.1, getD_set_true h'.2⟩), h3.keep (by decide) _, h5.keep (by decide) _, h6.keep (by decide) _, h7.keep (by decide) _, h9.keep (by decide) _, hA.keep (by decide) (by decide) _ id, (fun h => by rw [upd_other _ _ (by decide)]; exact id (hB (by rwa [getD_set_ne false (by decide)] at h))), (fun h => by rw [upd_other _ _ (by decide)]; exact id (hD (by rwa [getD_set_ne false (by decide)] at h)))⟩
              simp only [upd]
              (try rfl)
            case s9 =>
              intro listed bb u hsz hn hwt hinv
              obtain ⟨X', rfl, hU, hW, hE, hX, hL, h3, h5, h6, h7, h9, hA, hB, hD⟩ := hinv
              have f8 := Lib.hid (hU 8 _ rfl (hwt 8 (by kernel_rfl)))
              simp only [putsX, Act.put, List.setIfInBounds_toArray, List.set_cons_zero, List.set_cons_succ]
              rw [f8.out]
              obtain ⟨p, e1, hp⟩ := h7 (hwt 7 (by kernel_rfl))
              have E1 := Lib.hid e1
              have HP := Lib.hid hp
              rw [E1.out]
              clear e1 hp
              go_wp2_with fail
              refine stepQ_normal ⟨trivial, upd X' 9 (.agg #[.int .i64 (at' + p), .int .i64 k, .int .i64 x, .int .i64 y, .int .i64 z]), ?_, hU.step (fun _ h => by cases h), hW, (fun h => by have h' : listed.getD 11 false = false := (by rwa [getD_set_ne false (by decide)] at h); exact hE h'), (fun h => by rw [upd_other _ _ (by decide)]; exact hX (by rwa [getD_set_ne false (by decide)] at h)), (fun h => by have h' := hL (by rwa [getD_set_ne false (by decide)] at h); exact ⟨getD_set_true h'.1, getD_set_true h'.2⟩), h3.keep (by decide) _, h5.keep (by decide) _, h6.keep (by decide) _, h7.keep (by decide) _, Fact.new ⟨p, rfl, HP.out⟩, hA.keep (by decide) (by decide) _ id, (fun h => by rw [upd_other _ _ (by decide)]; exact id (hB (by rwa [getD_set_ne false (by decide)] at h))), (fun h => by rw [upd_other _ _ (by decide)]; exact id (hD (by rwa [getD_set_ne false (by decide)] at h)))⟩
              simp only [upd]
              simp only [f8.out, E1.out]
              (try rfl)
            case s10 =>
              intro listed bb u hsz hn hwt hinv
              obtain ⟨X', rfl, hU, hW, hE, hX, hL, h3, h5, h6, h7, h9, hA, hB, hD⟩ := hinv
              simp only [putsX, Act.put, List.setIfInBounds_toArray, List.set_cons_zero, List.set_cons_succ]
              obtain ⟨p, e1, hp⟩ := h9 (hwt 9 (by kernel_rfl))
              have E1 := Lib.hid e1
              have HP := Lib.hid hp
              rw [E1.out]
              clear e1 hp
              have hqs := lt_of_block hW.q
              go_wp2_with fail
              refine stepQ_normal ⟨trivial, upd X' 10 (.slice (some ⟨u.heap.size, 0, none⟩) 1 1), ?_, hU.step (fun _ h => by cases h), hW.alloc _, (fun h => by have h' : listed.getD 11 false = false := (by rwa [getD_set_ne false (by decide)] at h); exact (hE h').below (below_allocT _)), (fun h => by rw [upd_other _ _ (by decide)]; exact hX (by rwa [getD_set_ne false (by decide)] at h)), (fun h => by have h' := hL (by rwa [getD_set_ne false (by decide)] at h); exact ⟨getD_set_true h'.1, getD_set_true h'.2⟩), h3.keep (by decide) _, h5.keep (by decide) _, h6.keep (by decide) _, h7.keep (by decide) _, h9.keep (by decide) _, FactW.new ⟨p, u.heap.size, rfl, HP.out, hqs, heap_alloc_new _ _⟩, (fun h => by rw [upd_other _ _ (by decide)]; exact (fun ⟨p, va, vc, a1, a2, a3, a4⟩ => ⟨p, va, vc, a1, a2, a3.below (below_allocT _), a4⟩) (hB (by rwa [getD_set_ne false (by decide)] at h))), (fun h => by rw [upd_other _ _ (by decide)]; exact (fun ⟨p, va, vc, a1, a2, a3, a4⟩ => ⟨p, va, vc, a1, a2, a3.below (below_allocT _), a4⟩) (hD (by rwa [getD_set_ne false (by decide)] at h)))⟩
              simp only [upd]
              simp only [E1.out]
              (try rfl)
            case s11 =>
              intro listed bb u hsz hn hwt hinv
              obtain ⟨X', rfl, hU, hW, hE, hX, hL, h3, h5, h6, h7, h9, hA, hB, hD⟩ := hinv
              have f0 := Lib.hid (hU 0 _ rfl (hwt 0 (by kernel_rfl)))
              simp only [putsX, Act.put, List.setIfInBounds_toArray, List.set_cons_zero, List.set_cons_succ]
              rw [f0.out]
              obtain ⟨p, g, e1, hp, hgq, hg⟩ := hA (hwt 10 (by kernel_rfl)) hn
              have E1 := Lib.hid e1
              have HP := Lib.hid hp
              have evs := hE hn
              rw [E1.out]
              clear e1 hp
              have hcn := cells5 hg
              have hnl := HLN.out
              have hlo := evs.lo
              have hlt := hW.lt
              have hos := hW.only.size
              have hws : w1.heap.size ≤ u.heap.size := by have := lt_of_block hW.r; have := HS3.out; have := HS2.out; have := HS1.out; omega
              go_wp2_with (at_builtin; refine wpList_append_own_at _ rfl _ _ 28 rfl w1.heap.size 41 i0 (.agg #[.int .i64 0, .int .i64 0, .int .i64 0, .int .i64 0, .int .i64 0]) 5 40 Try.underlying28 hi hz0 hz1 hz2 rfl (by decide) _ _ _ rfl evs ⟨g, 0, none⟩ 1 1 [.int .i64 (at' + p), .int .i64 k, .int .i64 x, .int .i64 y, .int .i64 z] rfl rfl (five_new hcn) (by intro v hv; simp only [List.mem_cons, List.not_mem_nil, or_false] at hv; rcases hv with rfl | rfl | rfl | rfl | rfl <;> rfl) (by have := HLL.out; unfold maxLen; omega) (by have := HLL.out; omega) hws ?_)
              intro v' u' hown hgrow _ hat
              have R : evK.Own 41 w1.heap.size v' (L ++ [⟨at' + p, k, x, y, z⟩]) u' := Kd.Own.more hown
              obtain ⟨va, vc, hv⟩ := R.shape
              have hlen : (L ++ [(⟨at' + p, k, x, y, z⟩ : Ev)]).length = ll + 1 := by rw [List.length_append, HLL.out]; rfl
              rw [hlen] at hv
              subst hv
              have HWN : Hid (TrCom w.heap.size w3.heap.size w5.heap.size c B w2.heap.size #[.int .i64 g0, .int .i64 Bk_, .int .i64 g2, .int .i64 g3] #[.int .i64 t.rcd, .int .i64 t.rp, .int .i64 t.ras, .int .i64 t.rrds, .int .i64 t.rrdl, .int .i64 t.faw, .int .i64 t.ccds, .int .i64 t.ccdl, .int .i64 t.rtp, .int .i64 t.wr, .int .i64 t.wtrs, .int .i64 t.wtrl, .int .i64 t.rtw, .int .i64 t.rfc, .int .i64 t.cke, .int .i64 t.xp, .int .i64 t.xs] #[.int .i64 k, .int .i64 x, .int .i64 y, .int .i64 z] aa N cc (doL (stL N L) k x y) (doP (stP L) k) w u') := hW.grown hgrow (fun a ha => by
                have h1 := hlo a ha
                have h2 := HUA.out a ha
                have h3 := HUQ.out a ha
                refine ⟨by have := HS1.out; omega, by omega, h3, fun b hb => ?_⟩
                have := HAA.out b hb
                omega)
              have HVA : Hid (∀ x, va = some x → x.block < w2.heap.size ∨ w3.heap.size < x.block) := fun a ha => by
                subst ha
                rcases hat with hat | hat
                · obtain ⟨b, hb, hbi⟩ := slice_block hat.symm
                  rw [← hbi]
                  exact HUA.out b hb
                · have hxi : a.block = u.heap.size := Option.some.inj hat
                  have := lt_of_block hW.r
                  omega
              have RR := Lib.hid R
              clear hown hgrow hat R hcn hlo hlt hos hws hlen evs hnl
              refine stepQ_normal ⟨trivial, upd X' 11 (.slice va (ll + 1) vc), ?_, hU.step (fun _ h => by cases h), HWN.out, (fun h => by rw [get_set_same false (by rw [hsz]; decide)] at h; cases h), (fun h => by rw [upd_other _ _ (by decide)]; exact hX (by rwa [getD_set_ne false (by decide)] at h)), (fun h => by have h' := hL (by rwa [getD_set_ne false (by decide)] at h); exact ⟨getD_set_true h'.1, getD_set_true h'.2⟩), h3.keep (by decide) _, h5.keep (by decide) _, h6.keep (by decide) _, h7.keep (by decide) _, h9.keep (by decide) _, FactW.call (by rw [hsz]; decide), (fun _ => by rw [upd_same]; exact ⟨p, va, vc, rfl, HP.out, RR.out, HVA.out⟩), (fun h1 => by have h' := (hL (by rwa [getD_set_ne false (by decide)] at h1)).1; rw [hn] at h'; cases h')⟩
              simp only [upd]
              simp only [f0.out, E1.out]
              (try rfl)
            case s12 =>
              intro listed bb u hsz hn hwt hinv
              obtain ⟨X', rfl, hU, hW, hE, hX, hL, h3, h5, h6, h7, h9, hA, hB, hD⟩ := hinv
              simp only [putsX, Act.put, List.setIfInBounds_toArray, List.set_cons_zero, List.set_cons_succ]
              obtain ⟨p, va, vc, e1, hp, hown, hva⟩ := hB (hwt 11 (by kernel_rfl))
              have E1 := Lib.hid e1
              rw [E1.out]
              clear e1
              go_wp2_with fail
              refine stepQ_normal ⟨trivial, upd X' 12 (.slice va (ll + 1) vc), ?_, hU.step (fun _ h => by cases h), hW, (fun h => by have h' : listed.getD 11 false = false := (by rwa [getD_set_ne false (by decide)] at h); exact hE h'), (fun h => by rw [get_set_same false (by rw [hsz]; decide)] at h; cases h), (fun _ => ⟨getD_set_true (hwt 11 (by kernel_rfl)), getD_set_true (hwt 0 (by kernel_rfl))⟩), h3.keep (by decide) _, h5.keep (by decide) _, h6.keep (by decide) _, h7.keep (by decide) _, h9.keep (by decide) _, hA.keep (by decide) (by decide) _ id, (fun h => by rw [upd_other _ _ (by decide)]; exact id (hB (by rwa [getD_set_ne false (by decide)] at h))), (fun _ => by rw [upd_same]; exact ⟨p, va, vc, rfl, hp, hown, hva⟩)⟩
              simp only [upd]
              simp only [E1.out]
              (try rfl)
          case he =>
            intro listed q u hall hU hS
            obtain ⟨hW, hE, hX, hL, h3, h5, h6, h7, h9, hA, hB, hD⟩ := hS
            obtain ⟨p, va, vc, fb, hp, hown, hva⟩ := hD (hall 12 (by decide))
            simp only [putsX, Act.put, List.setIfInBounds_toArray, List.set_cons_zero, List.set_cons_succ]
            rw [fb]
            clear hall hU hE hX hL h3 h5 h6 h7 h9 hA hB hD fb
            generalize q 0 = _q0, q 1 = _q1, q 2 = _q2, q 3 = _q3, q 4 = _q4, q 5 = _q5, q 6 = _q6, q 7 = _q7, q 8 = _q8, q 9 = _q9, q 10 = _q10, q 11 = _q11
            have HWW := Lib.hid hW
            have HOWN := Lib.hid hown
            have HVA := Lib.hid hva
            have HPP := Lib.hid hp
            have hlen : Hid ((L ++ [(⟨at' + p, k, x, y, z⟩ : Ev)]).length = ll + 1) := by show _ = _; rw [List.length_append, HLL.out]; rfl
            have HSZ : Hid (w4.heap.size ≤ u.heap.size) := by have := lt_of_block hW.q; have := HQ.out; show _ ≤ _; omega
            clear hW hown hva hp
            go_wp2_with fail
            go_roundw
            case rel => exact ⟨m + 1, va, vc, L ++ [⟨at' + p, k, x, y, z⟩], by have := HLT.out; omega, by go_num, by rw [hlen.out], HDM.out p HPP.out, HWW.out.g, HWW.out.t, by rw [stP_snoc]; exact HWW.out.r, by rw [stL_snoc]; exact HWW.out.own, by rw [hlen.out]; exact HOWN.out, HVA.out, HWW.out.cur, HWW.out.only, HSZ.out⟩
            case measure => have := HLT.out; simp [intOf]; omega
      case neg =>
        have t5 : decide ((5 : Int) < k) = true := decide_eq_true h5
        have tp : (stP L == 0) = false := by simp [hp0]
        go_wp2_with fail
        clear t5 tp h5 hp0
        have HS7 : Hid (w5.heap.size < (w5.alloc (.cells #[.int .i64 k, .int .i64 x, .int .i64 y, .int .i64 z] 39)).heap.size) := by have := HS6.out; show _ < _; omega
        generalize (w5.alloc (.cells #[.int .i64 k, .int .i64 x, .int .i64 y, .int .i64 z] 39)) = w7 at g6 p6 r6 q6 HC6 HO6 OW6 EV6 HS6 HS7 ⊢
        have g7 := g6
        have p7 := p6
        have r7 := r6
        have q7 := q6
        have HC7 := HC6
        have HO7 := HO6
        have OW7 := OW6
        have EV7 := EV6
        clear HS6 g6 p6 r6 q6 HC6 HO6 OW6 EV6
        refine (specMay_is aa N cc (stL N L) (stP L) k x y z mv HMV.out HKK.out (fun _ => HXX.out) (stL_length _ _) (by omega) _ OW7.out.row).mono ?_
        rintro e w8 ⟨rfl, hb8⟩
        have g8 := keep_block hb8 g7 (lt_of_block g7)
        have p8 := keep_block hb8 p7 (lt_of_block p7)
        have r8 := keep_block hb8 r7 (lt_of_block r7)
        have q8 := keep_block hb8 q7 (lt_of_block q7)
        have OW8 := Lib.hid (OW7.out.below hb8)
        have EV8 := Lib.hid (EV7.out.below hb8)
        have HC8 : Hid (Cur c B w8) := HC7.out.keep (hb8.block _ HC7.out.lt) (hb8.mono (by have := HC7.out.lt; omega))
        have HO8 : Hid (Only c w w8) := HO7.out.past (hb8.mono HO7.out.size)
        have HS8 : Hid (w5.heap.size < w8.heap.size) := Nat.lt_of_lt_of_le HS7.out hb8.size
        clear hb8 g7 p7 r7 q7 OW7 EV7 HC7 HO7 HS7 d0 d1 e0 e1 e2 e3
        cases mv
        case false =>
          go_wp2_with fail
          go_roundw
          case rel => exact ⟨m + 1, ua, uc, L, by have := HLT.out; omega, by go_num, by rw [HLL.out], HDR.out.same, g8, p8, r8, OW8.out, by rw [HLL.out]; exact EV8.out, HUA.out, HC8.out, HO8.out, by have := HS8.out; have := HQ.out; omega⟩
          case measure => have := HLT.out; simp [intOf]; omega
        have HLN : Hid (ll ≤ m) := by have := HDR.out.few; have := HLL.out; show _ ≤ _; omega
        obtain ⟨hrk, _⟩ := st_ok HG.out HN.out HDR.out.ok
        have HAL : Hid (allowR g0 Bk_ g2 g3 (stL N L) (stP L) k x y z = true) := by
          show _ = _
          unfold allowR
          rw [HMV.out, decide_eq_true ⟨hrk, HCM.out.1, HCM.out.2⟩]
          rfl
        have hnx := nextT_le (B := Bk_) HT.out (L := L) (k := k) (x := x) (M := 140 * (m : Int)) (by omega) HDR.out.low
        have hnx0 := nextT_nonneg (B := Bk_) (t := t) (L := L) (k := k) (x := x)
        obtain ⟨at', hat'⟩ : ∃ at', nextT Bk_ t L k x = at' := ⟨_, rfl⟩
        have HAT := Lib.hid hat'
        rw [hat'] at hnx hnx0
        have hXl := HX.out
        have hLT := HLT.out
        have HEA : Hid (earlyF g0 Bk_ g2 g3 t N L k x y z = at') := by
          show _ = _
          unfold earlyF
          rw [if_pos ⟨⟨by unfold traceF; rw [if_pos ⟨HG.out, HT.out, by have := HLN.out; have := HLL.out; omega⟩]; exact HDR.out.ok, HAL.out, by have := HLN.out; have := HLL.out; omega⟩, by rw [hat']; omega⟩]
          exact hat'
        have t9 : decide (at' < 0) = false := decide_eq_false (by omega)
        have HAR : Hid (0 ≤ at' ∧ at' ≤ 140 * 29 + 128) := ⟨hnx0, by omega⟩
        have HUQ : Hid (∀ x, ua = some x → x.block ≠ w5.heap.size) := HUB.out
        clear hrk hat' hnx hnx0
        obtain ⟨c0, c1, c2, c3⟩ := cells4 g8
        obtain ⟨e0, e1, e2, e3⟩ := cells4 q8
        go_wp2_with ((with_reducible refine ld_tm ?_ ?_ p8 ?_); kernel_rfl; kernel_rfl; go_simp)
        refine (specEarly_of (Lib.hid specEnd_is) t g0 Bk_ g2 g3 ua ll uc L k x y z N HN.out at' HEA.out HLL.out (by have := HLN.out; omega) EV8.out.cap.1 _ EV8.out.row).mono ?_
        rintro e w9 ⟨rfl, hb9⟩
        have g9 := keep_block hb9 g8 (lt_of_block g8)
        have p9 := keep_block hb9 p8 (lt_of_block p8)
        have r9 := keep_block hb9 r8 (lt_of_block r8)
        have q9 := keep_block hb9 q8 (lt_of_block q8)
        have own9 := OW8.out.below hb9
        have EV9 := Lib.hid (EV8.out.below hb9)
        have HC9 : Hid (Cur c B w9) := HC8.out.keep (hb9.block _ HC8.out.lt) (hb9.mono (by have := HC8.out.lt; omega))
        have HO9 : Hid (Only c w w9) := HO8.out.past (hb9.mono HO8.out.size)
        have HS9 : Hid (w5.heap.size < w9.heap.size) := Nat.lt_of_lt_of_le HS8.out hb9.size
        clear hb9 g8 p8 r8 q8 OW8 EV8 HC8 HO8 HS8 c0 c1 c2 c3 e0 e1 e2 e3
        have HDO := Lib.hid (specDoX_is (B := w2.heap.size) (P := w3.heap.size) (y := y) (z := z) HKK.out (fun _ => HXX.out) (stL_length N L) (by omega) r9 own9 (fun x hx => by have := (HAA.out x hx).2; omega) HS3.out)
        obtain ⟨e0, e1, e2, e3⟩ := cells4 q9
        go_wp2_with fail
        refine HDO.out.mono ?_
        rintro e w10 ⟨rfl, r10, own10, hb10, hf10⟩
        have hS2 := HS2.out
        have g10 := keep_block hb10 g9 (by omega)
        have p10 := keep_block hb10 p9 (by omega)
        have q10 := (hf10 w5.heap.size HS9.out (by have := HQ.out; have := HS4.out; omega) (fun x hx => by have := (HAA.out x hx).2; have := HQ.out; have := HS4.out; omega)).trans q9
        have EV10 : Hid (evK.Own 41 w1.heap.size (.slice ua ll uc) L w10) := EV9.out.frame (fun x hx => by
          rcases HUA.out x hx with h | h
          · exact hb10.block _ h
          · exact hf10 _ (EV9.out.lo x hx).2 (by omega) (fun y hy => by have := (HAA.out y hy).2; omega))
        have HC10 : Hid (Cur c B w10) := HC9.out.keep (hb10.block _ (by omega)) (hb10.mono (by omega))
        have HO10 : Hid (Only c w w10) := HO9.out.past (hb10.mono (by omega))
        have HS10 : Hid (w5.heap.size < w10.heap.size) := lt_of_block q10
        have OW10 := Lib.hid own10
        clear hb10 hf10 own10 own9 g9 p9 r9 q9 EV9 HC9 HO9 HS9 HDO e0 e1 e2 e3 hS2
        have HC0 : Hid (TrCom w.heap.size w3.heap.size w5.heap.size c B w2.heap.size #[.int .i64 g0, .int .i64 Bk_, .int .i64 g2, .int .i64 g3] #[.int .i64 t.rcd, .int .i64 t.rp, .int .i64 t.ras, .int .i64 t.rrds, .int .i64 t.rrdl, .int .i64 t.faw, .int .i64 t.ccds, .int .i64 t.ccdl, .int .i64 t.rtp, .int .i64 t.wr, .int .i64 t.wtrs, .int .i64 t.wtrl, .int .i64 t.rtw, .int .i64 t.rfc, .int .i64 t.cke, .int .i64 t.xp, .int .i64 t.xs] #[.int .i64 k, .int .i64 x, .int .i64 y, .int .i64 z] aa N cc (doL (stL N L) k x y) (doP (stP L) k) w w10) := ⟨g10, p10, r10, q10, OW10.out, HC10.out, HO10.out, ⟨hBc, hcl, by have := HS2.out; omega, HS3.out, by have := HQ.out; have := HS4.out; omega, rfl⟩⟩
        have HDM : Hid (∀ p : Int, 0 ≤ p ∧ p ≤ 4 → Drawn g0 Bk_ g2 g3 t N (m + 1) (L ++ [⟨at' + p, k, x, y, z⟩])) := fun p hp => by
          rw [← HAT.out]
          exact HDR.out.more HT.out (by have := HX.out; have := HLT.out; omega) HAL.out hp
        clear g10 p10 r10 q10 OW10 HC10 HO10 HS10
        go_wp2_with fail
        refine wp_region_flowG (fun i' => match i' with | 0 => some (.slice ua ll uc) | 1 => some (.int .i64 at') | 2 => some (.pointer (some ⟨c, 0, none⟩)) | 4 => some (.pointer (some ⟨c, 0, none⟩)) | 8 => some (.agg #[.int .i64 k, .int .i64 x, .int .i64 y, .int .i64 z]) | _ => none) (fun listed X' u => TrCom w.heap.size w3.heap.size w5.heap.size c B w2.heap.size #[.int .i64 g0, .int .i64 Bk_, .int .i64 g2, .int .i64 g3] #[.int .i64 t.rcd, .int .i64 t.rp, .int .i64 t.ras, .int .i64 t.rrds, .int .i64 t.rrdl, .int .i64 t.faw, .int .i64 t.ccds, .int .i64 t.ccdl, .int .i64 t.rtp, .int .i64 t.wr, .int .i64 t.wtrs, .int .i64 t.wtrl, .int .i64 t.rtw, .int .i64 t.rfc, .int .i64 t.cke, .int .i64 t.xp, .int .i64 t.xs] #[.int .i64 k, .int .i64 x, .int .i64 y, .int .i64 z] aa N cc (doL (stL N L) k x y) (doP (stP L) k) w u ∧ UnlW 11 (fun u => evK.Own 41 w1.heap.size (.slice ua ll uc) L u) listed u ∧ UnlX 12 (.slice ua ll uc) listed X' ∧ Behind2 12 11 0 listed ∧ Fact 3 (fun q => ∃ b : Int, q = .int .i64 b ∧ (0 ≤ b ∧ b ≤ 1)) listed X' ∧ Fact 5 (fun q => ∃ b : Int, q = .int .i64 b ∧ (0 ≤ b ∧ b ≤ 4)) listed X' ∧ Fact 6 (fun q => ∃ b : Int, q = .int .i64 b ∧ (0 ≤ b ∧ b ≤ 4)) listed X' ∧ Fact 7 (fun q => ∃ p : Int, q = .int .i64 (at' + p) ∧ (0 ≤ p ∧ p ≤ 4)) listed X' ∧ Fact 9 (fun q => ∃ p : Int, q = .agg #[.int .i64 (at' + p), .int .i64 k, .int .i64 x, .int .i64 y, .int .i64 z] ∧ (0 ≤ p ∧ p ≤ 4)) listed X' ∧ FactW 10 11 (fun q u => ∃ (p : Int) (g : Nat), q = .slice (some ⟨g, 0, none⟩) 1 1 ∧ (0 ≤ p ∧ p ≤ 4) ∧ w5.heap.size < g ∧ u.heap[g]? = some (.cells #[.int .i64 (at' + p), .int .i64 k, .int .i64 x, .int .i64 y, .int .i64 z] 41)) listed X' u ∧ LstW 11 (fun q u => ∃ (p : Int) (va : Option Addr) (vc : Nat), q = .slice va (ll + 1) vc ∧ (0 ≤ p ∧ p ≤ 4) ∧ evK.Own 41 w1.heap.size (.slice va (ll + 1) vc) (L ++ [⟨at' + p, k, x, y, z⟩]) u ∧ ∀ x, va = some x → x.block < w2.heap.size ∨ w3.heap.size < x.block) listed X' u ∧ LstW 12 (fun q u => ∃ (p : Int) (va : Option Addr) (vc : Nat), q = .slice va (ll + 1) vc ∧ (0 ≤ p ∧ p ≤ 4) ∧ evK.Own 41 w1.heap.size (.slice va (ll + 1) vc) (L ++ [⟨at' + p, k, x, y, z⟩]) u ∧ ∀ x, va = some x → x.block < w2.heap.size ∨ w3.heap.size < x.block) listed X' u) (upd (upd (upd (upd (upd (upd (upd (upd (upd (upd (upd (upd (upd (fun _ => undef) 0 u53) 1 u54) 2 u55) 3 u56) 4 u57) 5 u58) 6 u59) 7 u60) 8 u61) 9 u62) 10 u63) 11 u64) 12 (.slice ua ll uc)) (by kernel_rfl) (by kernel_rfl) ?hx ?hS ?hs ?he
        case hx => simp only [putsX, Act.put, List.setIfInBounds_toArray, List.set_cons_zero, List.set_cons_succ, upd, Nat.reduceEqDiff, reduceIte]
        case hS => exact ⟨⟨HC0.out.g, HC0.out.t, HC0.out.r, HC0.out.q, HC0.out.own, HC0.out.cur, HC0.out.only.drew, HC0.out.lt⟩, fun _ => EV10.out, fun _ => rfl, fun h => (by rw [getD_replicate_false] at h; cases h), Fact.zero _ _ _ _, Fact.zero _ _ _ _, Fact.zero _ _ _ _, Fact.zero _ _ _ _, Fact.zero _ _ _ _, FactW.zero _ _ _ _ _ _, (fun h => by rw [getD_replicate_false] at h; cases h), (fun h => by rw [getD_replicate_false] at h; cases h)⟩
        case hs =>
          simp only [flowSteps]
          refine ⟨?s0, ?s1, ?s2, ?s3, ?s4, ?s5, ?s6, ?s7, ?s8, ?s9, ?s10, ?s11, ?s12, trivial⟩
          case s0 =>
            intro listed bb u hsz hn hwt hinv
            obtain ⟨X', rfl, hU, hW, hE, hX, hL, h3, h5, h6, h7, h9, hA, hB, hD⟩ := hinv
            simp only [putsX, Act.put, List.setIfInBounds_toArray, List.set_cons_zero, List.set_cons_succ]
            have hx12 := Lib.hid (hX (by
              cases h12 : listed.getD 12 false
              · rfl
              · have := (hL h12).2
                rw [hn] at this
                cases this))
            rw [hx12.out]
            go_wp2_with fail
            refine stepQ_normal ⟨trivial, upd X' 0 (.slice ua ll uc), ?_, hU.step (fun _ h => Option.some.inj h), hW, (fun h => by have h' : listed.getD 11 false = false := (by rwa [getD_set_ne false (by decide)] at h); exact hE h'), (fun h => by rw [upd_other _ _ (by decide)]; exact hX (by rwa [getD_set_ne false (by decide)] at h)), (fun h => by have h' := hL (by rwa [getD_set_ne false (by decide)] at h); exact ⟨getD_set_true h'.1, getD_set_true h'.2⟩), h3.keep (by decide) _, h5.keep (by decide) _, h6.keep (by decide) _, h7.keep (by decide) _, h9.keep (by decide) _, hA.keep (by decide) (by decide) _ id, (fun h => by rw [upd_other _ _ (by decide)]; exact id (hB (by rwa [getD_set_ne false (by decide)] at h))), (fun h => by rw [upd_other _ _ (by decide)]; exact id (hD (by rwa [getD_set_ne false (by decide)] at h)))⟩
            simp only [upd]
            simp only [hx12.out]
            (try rfl)
          case s1 =>
            intro listed bb u hsz hn hwt hinv
            obtain ⟨X', rfl, hU, hW, hE, hX, hL, h3, h5, h6, h7, h9, hA, hB, hD⟩ := hinv
            simp only [putsX, Act.put, List.setIfInBounds_toArray, List.set_cons_zero, List.set_cons_succ]
            go_wp2_with fail
            refine stepQ_normal ⟨trivial, upd X' 1 (.int .i64 at'), ?_, hU.step (fun _ h => Option.some.inj h), hW, (fun h => by have h' : listed.getD 11 false = false := (by rwa [getD_set_ne false (by decide)] at h); exact hE h'), (fun h => by rw [upd_other _ _ (by decide)]; exact hX (by rwa [getD_set_ne false (by decide)] at h)), (fun h => by have h' := hL (by rwa [getD_set_ne false (by decide)] at h); exact ⟨getD_set_true h'.1, getD_set_true h'.2⟩), h3.keep (by decide) _, h5.keep (by decide) _, h6.keep (by decide) _, h7.keep (by decide) _, h9.keep (by decide) _, hA.keep (by decide) (by decide) _ id, (fun h => by rw [upd_other _ _ (by decide)]; exact id (hB (by rwa [getD_set_ne false (by decide)] at h))), (fun h => by rw [upd_other _ _ (by decide)]; exact id (hD (by rwa [getD_set_ne false (by decide)] at h)))⟩
            simp only [upd]
            (try rfl)
          case s2 =>
            intro listed bb u hsz hn hwt hinv
            obtain ⟨X', rfl, hU, hW, hE, hX, hL, h3, h5, h6, h7, h9, hA, hB, hD⟩ := hinv
            simp only [putsX, Act.put, List.setIfInBounds_toArray, List.set_cons_zero, List.set_cons_succ]
            go_wp2_with fail
            refine stepQ_normal ⟨trivial, upd X' 2 (.pointer (some ⟨c, 0, none⟩)), ?_, hU.step (fun _ h => Option.some.inj h), hW, (fun h => by have h' : listed.getD 11 false = false := (by rwa [getD_set_ne false (by decide)] at h); exact hE h'), (fun h => by rw [upd_other _ _ (by decide)]; exact hX (by rwa [getD_set_ne false (by decide)] at h)), (fun h => by have h' := hL (by rwa [getD_set_ne false (by decide)] at h); exact ⟨getD_set_true h'.1, getD_set_true h'.2⟩), h3.keep (by decide) _, h5.keep (by decide) _, h6.keep (by decide) _, h7.keep (by decide) _, h9.keep (by decide) _, hA.keep (by decide) (by decide) _ id, (fun h => by rw [upd_other _ _ (by decide)]; exact id (hB (by rwa [getD_set_ne false (by decide)] at h))), (fun h => by rw [upd_other _ _ (by decide)]; exact id (hD (by rwa [getD_set_ne false (by decide)] at h)))⟩
            simp only [upd]
            (try rfl)
          case s3 =>
            intro listed bb u hsz hn hwt hinv
            obtain ⟨X', rfl, hU, hW, hE, hX, hL, h3, h5, h6, h7, h9, hA, hB, hD⟩ := hinv
            have f2 := Lib.hid (hU 2 _ rfl (hwt 2 (by kernel_rfl)))
            simp only [putsX, Act.put, List.setIfInBounds_toArray, List.set_cons_zero, List.set_cons_succ]
            have hcall : Calls Try.prog 79 #[X' 2, .int .i64 2] u (Drew c B 0 (topOf 2) u) := by rw [f2.out]; exact l01Below_any hW.cur 2 (by omega)
            go_wp2_with fail
            refine hcall.mono ?_
            rintro e' u' ⟨b, rfl, hl, hu, hc, ho⟩
            rw [topOf_pos (by omega)] at hu
            go_wp2_with fail
            refine stepQ_normal ⟨trivial, upd X' 3 (.int .i64 b), ?_, hU.step (fun _ h => by cases h), hW.draw hc ho, (fun h => by have h' : listed.getD 11 false = false := (by rwa [getD_set_ne false (by decide)] at h); exact (hE h').only ho (by have := hW.lt; have := HS1.out; omega)), (fun h => by rw [upd_other _ _ (by decide)]; exact hX (by rwa [getD_set_ne false (by decide)] at h)), (fun h => by have h' := hL (by rwa [getD_set_ne false (by decide)] at h); exact ⟨getD_set_true h'.1, getD_set_true h'.2⟩), Fact.new ⟨b, rfl, by omega⟩, h5.keep (by decide) _, h6.keep (by decide) _, h7.keep (by decide) _, h9.keep (by decide) _, hA.keep (by decide) (by decide) _ (fun ⟨p, g, a1, a2, a3, a4⟩ => ⟨p, g, a1, a2, a3, (ho.block _ (lt_of_block a4) (by have := hW.lt; omega)).trans a4⟩), (fun h => by rw [upd_other _ _ (by decide)]; exact (fun ⟨p, va, vc, a1, a2, a3, a4⟩ => ⟨p, va, vc, a1, a2, a3.only ho (by have := hW.lt; have := HS1.out; omega), a4⟩) (hB (by rwa [getD_set_ne false (by decide)] at h))), (fun h => by rw [upd_other _ _ (by decide)]; exact (fun ⟨p, va, vc, a1, a2, a3, a4⟩ => ⟨p, va, vc, a1, a2, a3.only ho (by have := hW.lt; have := HS1.out; omega), a4⟩) (hD (by rwa [getD_set_ne false (by decide)] at h)))⟩
            simp only [upd]
            (try rfl)
          case s4 =>
            intro listed bb u hsz hn hwt hinv
            obtain ⟨X', rfl, hU, hW, hE, hX, hL, h3, h5, h6, h7, h9, hA, hB, hD⟩ := hinv
            simp only [putsX, Act.put, List.setIfInBounds_toArray, List.set_cons_zero, List.set_cons_succ]
            go_wp2_with fail
            refine stepQ_normal ⟨trivial, upd X' 4 (.pointer (some ⟨c, 0, none⟩)), ?_, hU.step (fun _ h => Option.some.inj h), hW, (fun h => by have h' : listed.getD 11 false = false := (by rwa [getD_set_ne false (by decide)] at h); exact hE h'), (fun h => by rw [upd_other _ _ (by decide)]; exact hX (by rwa [getD_set_ne false (by decide)] at h)), (fun h => by have h' := hL (by rwa [getD_set_ne false (by decide)] at h); exact ⟨getD_set_true h'.1, getD_set_true h'.2⟩), h3.keep (by decide) _, h5.keep (by decide) _, h6.keep (by decide) _, h7.keep (by decide) _, h9.keep (by decide) _, hA.keep (by decide) (by decide) _ id, (fun h => by rw [upd_other _ _ (by decide)]; exact id (hB (by rwa [getD_set_ne false (by decide)] at h))), (fun h => by rw [upd_other _ _ (by decide)]; exact id (hD (by rwa [getD_set_ne false (by decide)] at h)))⟩
            simp only [upd]
            (try rfl)
          case s5 =>
            intro listed bb u hsz hn hwt hinv
            obtain ⟨X', rfl, hU, hW, hE, hX, hL, h3, h5, h6, h7, h9, hA, hB, hD⟩ := hinv
            have f4 := Lib.hid (hU 4 _ rfl (hwt 4 (by kernel_rfl)))
            simp only [putsX, Act.put, List.setIfInBounds_toArray, List.set_cons_zero, List.set_cons_succ]
            have hcall : Calls Try.prog 79 #[X' 4, .int .i64 5] u (Drew c B 0 (topOf 5) u) := by rw [f4.out]; exact l01Below_any hW.cur 5 (by omega)
            go_wp2_with fail
            refine hcall.mono ?_
            rintro e' u' ⟨b, rfl, hl, hu, hc, ho⟩
            rw [topOf_pos (by omega)] at hu
            go_wp2_with fail
            refine stepQ_normal ⟨trivial, upd X' 5 (.int .i64 b), ?_, hU.step (fun _ h => by cases h), hW.draw hc ho, (fun h => by have h' : listed.getD 11 false = false := (by rwa [getD_set_ne false (by decide)] at h); exact (hE h').only ho (by have := hW.lt; have := HS1.out; omega)), (fun h => by rw [upd_other _ _ (by decide)]; exact hX (by rwa [getD_set_ne false (by decide)] at h)), (fun h => by have h' := hL (by rwa [getD_set_ne false (by decide)] at h); exact ⟨getD_set_true h'.1, getD_set_true h'.2⟩), h3.keep (by decide) _, Fact.new ⟨b, rfl, by omega⟩, h6.keep (by decide) _, h7.keep (by decide) _, h9.keep (by decide) _, hA.keep (by decide) (by decide) _ (fun ⟨p, g, a1, a2, a3, a4⟩ => ⟨p, g, a1, a2, a3, (ho.block _ (lt_of_block a4) (by have := hW.lt; omega)).trans a4⟩), (fun h => by rw [upd_other _ _ (by decide)]; exact (fun ⟨p, va, vc, a1, a2, a3, a4⟩ => ⟨p, va, vc, a1, a2, a3.only ho (by have := hW.lt; have := HS1.out; omega), a4⟩) (hB (by rwa [getD_set_ne false (by decide)] at h))), (fun h => by rw [upd_other _ _ (by decide)]; exact (fun ⟨p, va, vc, a1, a2, a3, a4⟩ => ⟨p, va, vc, a1, a2, a3.only ho (by have := hW.lt; have := HS1.out; omega), a4⟩) (hD (by rwa [getD_set_ne false (by decide)] at h)))⟩
            simp only [upd]
            (try rfl)
          case s6 =>
            intro listed bb u hsz hn hwt hinv
            obtain ⟨X', rfl, hU, hW, hE, hX, hL, h3, h5, h6, h7, h9, hA, hB, hD⟩ := hinv
            simp only [putsX, Act.put, List.setIfInBounds_toArray, List.set_cons_zero, List.set_cons_succ]
            obtain ⟨b1, e1, hb1⟩ := h3 (hwt 3 (by kernel_rfl))
            obtain ⟨b2, e2, hb2⟩ := h5 (hwt 5 (by kernel_rfl))
            have E1 := Lib.hid e1
            have E2 := Lib.hid e2
            rw [E1.out, E2.out]
            clear e1 e2
            have hmul : 0 ≤ b1 * b2 ∧ b1 * b2 ≤ 4 := by
              have : b1 = 0 ∨ b1 = 1 := by omega
              rcases this with rfl | rfl <;> omega
            have m1 : IntKind.i64.wrap (b1 * b2) = b1 * b2 := IntWalk.i64_in _ (by omega)
            have HM := Lib.hid hmul
            clear hmul hb1 hb2
            go_wp2_with fail
            refine stepQ_normal ⟨trivial, upd X' 6 (.int .i64 (b1 * b2)), ?_, hU.step (fun _ h => by cases h), hW, (fun h => by have h' : listed.getD 11 false = false := (by rwa [getD_set_ne false (by decide)] at h); exact hE h'), (fun h => by rw [upd_other _ _ (by decide)]; exact hX (by rwa [getD_set_ne false (by decide)] at h)), (fun h => by have h' := hL (by rwa [getD_set_ne false (by decide)] at h); exact ⟨getD_set_true h'.1, getD_set_true h'.2⟩), h3.keep (by decide) _, h5.keep (by decide) _, Fact.new ⟨b1 * b2, rfl, HM.out⟩, h7.keep (by decide) _, h9.keep (by decide) _, hA.keep (by decide) (by decide) _ id, (fun h => by rw [upd_other _ _ (by decide)]; exact id (hB (by rwa [getD_set_ne false (by decide)] at h))), (fun h => by rw [upd_other _ _ (by decide)]; exact id (hD (by rwa [getD_set_ne false (by decide)] at h)))⟩
            simp only [upd]
            simp only [E1.out, E2.out]
            (try rfl)
          case s7 =>
            intro listed bb u hsz hn hwt hinv
            obtain ⟨X', rfl, hU, hW, hE, hX, hL, h3, h5, h6, h7, h9, hA, hB, hD⟩ := hinv
            have f1 := Lib.hid (hU 1 _ rfl (hwt 1 (by kernel_rfl)))
            simp only [putsX, Act.put, List.setIfInBounds_toArray, List.set_cons_zero, List.set_cons_succ]
            rw [f1.out]
            obtain ⟨p, e1, hp⟩ := h6 (hwt 6 (by kernel_rfl))
            have E1 := Lib.hid e1
            have HP := Lib.hid hp
            rw [E1.out]
            clear e1 hp
            have m1 : IntKind.i64.wrap (at' + p) = at' + p := IntWalk.i64_in _ (by have := HAR.out; have := HP.out; omega)
            go_wp2_with fail
            refine stepQ_normal ⟨trivial, upd X' 7 (.int .i64 (at' + p)), ?_, hU.step (fun _ h => by cases h), hW, (fun h => by have h' : listed.getD 11 false = false := (by rwa [getD_set_ne false (by decide)] at h); exact hE h'), (fun h => by rw [upd_other _ _ (by decide)]; exact hX (by rwa [getD_set_ne false (by decide)] at h)), (fun h => by have h' := hL (by rwa [getD_set_ne false (by decide)] at h); exact ⟨getD_set_true h'.1, getD_set_true h'.2⟩), h3.keep (by decide) _, h5.keep (by decide) _, h6.keep (by decide) _, Fact.new ⟨p, rfl, HP.out⟩, h9.keep (by decide) _, hA.keep (by decide) (by decide) _ id, (fun h => by rw [upd_other _ _ (by decide)]; exact id (hB (by rwa [getD_set_ne false (by decide)] at h))), (fun h => by rw [upd_other _ _ (by decide)]; exact id (hD (by rwa [getD_set_ne false (by decide)] at h)))⟩
            simp only [upd]
            simp only [f1.out, E1.out]
            (try rfl)
          case s8 =>
            intro listed bb u hsz hn hwt hinv
            obtain ⟨X', rfl, hU, hW, hE, hX, hL, h3, h5, h6, h7, h9, hA, hB, hD⟩ := hinv
            simp only [putsX, Act.put, List.setIfInBounds_toArray, List.set_cons_zero, List.set_cons_succ]
            obtain ⟨e0, e1, e2, e3⟩ := cells4 hW.q
            go_wp2_with fail
            refine stepQ_normal ⟨trivial, upd X' 8 (.agg #[.int .i64 k, .int .i64 x, .int .i64 y, .int .i64 z]), ?_, hU.step (fun _ h => Option.some.inj h), hW, (fun h => by have h' : listed.getD 11 false = false := (by rwa [getD_set_ne false (by decide)] at h); exact hE h'), (fun h => by rw [upd_other _ _ (by decide)]; exact hX (by rwa [getD_set_ne false (by decide)] at h)), (fun h => by have h' := hL (by rwa [getD_set_ne false (by decide)] at h); exact ⟨getD_set_true h'.1, getD_set_true h'.2⟩), h3.keep (by decide) _, h5.keep (by decide) _, h6.keep (by decide) _, h7.keep (by decide) _, h9.keep (by decide) _, hA.keep (by decide) (by decide) _ id, (fun h => by rw [upd_other _ _ (by decide)]; exact id (hB (by rwa [getD_set_ne false (by decide)] at h))), (fun h => by rw [upd_other _ _ (by decide)]; exact id (hD (by rwa [getD_set_ne false (by decide)] at h)))⟩
            simp only [upd]
            (try rfl)
          case s9 =>
            intro listed bb u hsz hn hwt hinv
            obtain ⟨X', rfl, hU, hW, hE, hX, hL, h3, h5, h6, h7, h9, hA, hB, hD⟩ := hinv
            have f8 := Lib.hid (hU 8 _ rfl (hwt 8 (by kernel_rfl)))
            simp only [putsX, Act.put, List.setIfInBounds_toArray, List.set_cons_zero, List.set_cons_succ]
            rw [f8.out]
            obtain ⟨p, e1, hp⟩ := h7 (hwt 7 (by kernel_rfl))
            have E1 := Lib.hid e1
            have HP := Lib.hid hp
            rw [E1.out]
            clear e1 hp
            go_wp2_with fail
            refine stepQ_normal ⟨trivial, upd X' 9 (.agg #[.int .i64 (at' + p), .int .i64 k, .int .i64 x, .int .i64 y, .int .i64 z]), ?_, hU.step (fun _ h => by cases h), hW, (fun h => by have h' : listed.getD 11 false = false := (by rwa [getD_set_ne false (by decide)] at h); exact hE h'), (fun h => by rw [upd_other _ _ (by decide)]; exact hX (by rwa [getD_set_ne false (by decide)] at h)), (fun h => by have h' := hL (by rwa [getD_set_ne false (by decide)] at h); exact ⟨getD_set_true h'.1, getD_set_true h'.2⟩), h3.keep (by decide) _, h5.keep (by decide) _, h6.keep (by decide) _, h7.keep (by decide) _, Fact.new ⟨p, rfl, HP.out⟩, hA.keep (by decide) (by decide) _ id, (fun h => by rw [upd_other _ _ (by decide)]; exact id (hB (by rwa [getD_set_ne false (by decide)] at h))), (fun h => by rw [upd_other _ _ (by decide)]; exact id (hD (by rwa [getD_set_ne false (by decide)] at h)))⟩
            simp only [upd]
            simp only [f8.out, E1.out]
            (try rfl)
          case s10 =>
            intro listed bb u hsz hn hwt hinv
            obtain ⟨X', rfl, hU, hW, hE, hX, hL, h3, h5, h6, h7, h9, hA, hB, hD⟩ := hinv
            simp only [putsX, Act.put, List.setIfInBounds_toArray, List.set_cons_zero, List.set_cons_succ]
            obtain ⟨p, e1, hp⟩ := h9 (hwt 9 (by kernel_rfl))
            have E1 := Lib.hid e1
            have HP := Lib.hid hp
            rw [E1.out]
            clear e1 hp
            have hqs := lt_of_block hW.q
            go_wp2_with fail
            refine stepQ_normal ⟨trivial, upd X' 10 (.slice (some ⟨u.heap.size, 0, none⟩) 1 1), ?_, hU.step (fun _ h => by cases h), hW.alloc _, (fun h => by have h' : listed.getD 11 false = false := (by rwa [getD_set_ne false (by decide)] at h); exact (hE h').below (below_allocT _)), (fun h => by rw [upd_other _ _ (by decide)]; exact hX (by rwa [getD_set_ne false (by decide)] at h)), (fun h => by have h' := hL (by rwa [getD_set_ne false (by decide)] at h); exact ⟨getD_set_true h'.1, getD_set_true h'.2⟩), h3.keep (by decide) _, h5.keep (by decide) _, h6.keep (by decide) _, h7.keep (by decide) _, h9.keep (by decide) _, FactW.new ⟨p, u.heap.size, rfl, HP.out, hqs, heap_alloc_new _ _⟩, (fun h => by rw [upd_other _ _ (by decide)]; exact (fun ⟨p, va, vc, a1, a2, a3, a4⟩ => ⟨p, va, vc, a1, a2, a3.below (below_allocT _), a4⟩) (hB (by rwa [getD_set_ne false (by decide)] at h))), (fun h => by rw [upd_other _ _ (by decide)]; exact (fun ⟨p, va, vc, a1, a2, a3, a4⟩ => ⟨p, va, vc, a1, a2, a3.below (below_allocT _), a4⟩) (hD (by rwa [getD_set_ne false (by decide)] at h)))⟩
            simp only [upd]
            simp only [E1.out]
            (try rfl)
          case s11 =>
            intro listed bb u hsz hn hwt hinv
            obtain ⟨X', rfl, hU, hW, hE, hX, hL, h3, h5, h6, h7, h9, hA, hB, hD⟩ := hinv
            have f0 := Lib.hid (hU 0 _ rfl (hwt 0 (by kernel_rfl)))
            simp only [putsX, Act.put, List.setIfInBounds_toArray, List.set_cons_zero, List.set_cons_succ]
            rw [f0.out]
            obtain ⟨p, g, e1, hp, hgq, hg⟩ := hA (hwt 10 (by kernel_rfl)) hn
            have E1 := Lib.hid e1
            have HP := Lib.hid hp
            have evs := hE hn
            rw [E1.out]
            clear e1 hp
            have hcn := cells5 hg
            have hnl := HLN.out
            have hlo := evs.lo
            have hlt := hW.lt
            have hos := hW.only.size
            have hws : w1.heap.size ≤ u.heap.size := by have := lt_of_block hW.r; have := HS3.out; have := HS2.out; have := HS1.out; omega
            go_wp2_with (at_builtin; refine wpList_append_own_at _ rfl _ _ 28 rfl w1.heap.size 41 i0 (.agg #[.int .i64 0, .int .i64 0, .int .i64 0, .int .i64 0, .int .i64 0]) 5 40 Try.underlying28 hi hz0 hz1 hz2 rfl (by decide) _ _ _ rfl evs ⟨g, 0, none⟩ 1 1 [.int .i64 (at' + p), .int .i64 k, .int .i64 x, .int .i64 y, .int .i64 z] rfl rfl (five_new hcn) (by intro v hv; simp only [List.mem_cons, List.not_mem_nil, or_false] at hv; rcases hv with rfl | rfl | rfl | rfl | rfl <;> rfl) (by have := HLL.out; unfold maxLen; omega) (by have := HLL.out; omega) hws ?_)
            intro v' u' hown hgrow _ hat
            have R : evK.Own 41 w1.heap.size v' (L ++ [⟨at' + p, k, x, y, z⟩]) u' := Kd.Own.more hown
            obtain ⟨va, vc, hv⟩ := R.shape
            have hlen : (L ++ [(⟨at' + p, k, x, y, z⟩ : Ev)]).length = ll + 1 := by rw [List.length_append, HLL.out]; rfl
            rw [hlen] at hv
            subst hv
            have HWN : Hid (TrCom w.heap.size w3.heap.size w5.heap.size c B w2.heap.size #[.int .i64 g0, .int .i64 Bk_, .int .i64 g2, .int .i64 g3] #[.int .i64 t.rcd, .int .i64 t.rp, .int .i64 t.ras, .int .i64 t.rrds, .int .i64 t.rrdl, .int .i64 t.faw, .int .i64 t.ccds, .int .i64 t.ccdl, .int .i64 t.rtp, .int .i64 t.wr, .int .i64 t.wtrs, .int .i64 t.wtrl, .int .i64 t.rtw, .int .i64 t.rfc, .int .i64 t.cke, .int .i64 t.xp, .int .i64 t.xs] #[.int .i64 k, .int .i64 x, .int .i64 y, .int .i64 z] aa N cc (doL (stL N L) k x y) (doP (stP L) k) w u') := hW.grown hgrow (fun a ha => by
              have h1 := hlo a ha
              have h2 := HUA.out a ha
              have h3 := HUQ.out a ha
              refine ⟨by have := HS1.out; omega, by omega, h3, fun b hb => ?_⟩
              have := HAA.out b hb
              omega)
            have HVA : Hid (∀ x, va = some x → x.block < w2.heap.size ∨ w3.heap.size < x.block) := fun a ha => by
              subst ha
              rcases hat with hat | hat
              · obtain ⟨b, hb, hbi⟩ := slice_block hat.symm
                rw [← hbi]
                exact HUA.out b hb
              · have hxi : a.block = u.heap.size := Option.some.inj hat
                have := lt_of_block hW.r
                omega
            have RR := Lib.hid R
            clear hown hgrow hat R hcn hlo hlt hos hws hlen evs hnl
            refine stepQ_normal ⟨trivial, upd X' 11 (.slice va (ll + 1) vc), ?_, hU.step (fun _ h => by cases h), HWN.out, (fun h => by rw [get_set_same false (by rw [hsz]; decide)] at h; cases h), (fun h => by rw [upd_other _ _ (by decide)]; exact hX (by rwa [getD_set_ne false (by decide)] at h)), (fun h => by have h' := hL (by rwa [getD_set_ne false (by decide)] at h); exact ⟨getD_set_true h'.1, getD_set_true h'.2⟩), h3.keep (by decide) _, h5.keep (by decide) _, h6.keep (by decide) _, h7.keep (by decide) _, h9.keep (by decide) _, FactW.call (by rw [hsz]; decide), (fun _ => by rw [upd_same]; exact ⟨p, va, vc, rfl, HP.out, RR.out, HVA.out⟩), (fun h1 => by have h' := (hL (by rwa [getD_set_ne false (by decide)] at h1)).1; rw [hn] at h'; cases h')⟩
            simp only [upd]
            simp only [f0.out, E1.out]
            (try rfl)
          case s12 =>
            intro listed bb u hsz hn hwt hinv
            obtain ⟨X', rfl, hU, hW, hE, hX, hL, h3, h5, h6, h7, h9, hA, hB, hD⟩ := hinv
            simp only [putsX, Act.put, List.setIfInBounds_toArray, List.set_cons_zero, List.set_cons_succ]
            obtain ⟨p, va, vc, e1, hp, hown, hva⟩ := hB (hwt 11 (by kernel_rfl))
            have E1 := Lib.hid e1
            rw [E1.out]
            clear e1
            go_wp2_with fail
            refine stepQ_normal ⟨trivial, upd X' 12 (.slice va (ll + 1) vc), ?_, hU.step (fun _ h => by cases h), hW, (fun h => by have h' : listed.getD 11 false = false := (by rwa [getD_set_ne false (by decide)] at h); exact hE h'), (fun h => by rw [get_set_same false (by rw [hsz]; decide)] at h; cases h), (fun _ => ⟨getD_set_true (hwt 11 (by kernel_rfl)), getD_set_true (hwt 0 (by kernel_rfl))⟩), h3.keep (by decide) _, h5.keep (by decide) _, h6.keep (by decide) _, h7.keep (by decide) _, h9.keep (by decide) _, hA.keep (by decide) (by decide) _ id, (fun h => by rw [upd_other _ _ (by decide)]; exact id (hB (by rwa [getD_set_ne false (by decide)] at h))), (fun _ => by rw [upd_same]; exact ⟨p, va, vc, rfl, hp, hown, hva⟩)⟩
            simp only [upd]
            simp only [E1.out]
            (try rfl)
        case he =>
          intro listed q u hall hU hS
          obtain ⟨hW, hE, hX, hL, h3, h5, h6, h7, h9, hA, hB, hD⟩ := hS
          obtain ⟨p, va, vc, fb, hp, hown, hva⟩ := hD (hall 12 (by decide))
          simp only [putsX, Act.put, List.setIfInBounds_toArray, List.set_cons_zero, List.set_cons_succ]
          rw [fb]
          clear hall hU hE hX hL h3 h5 h6 h7 h9 hA hB hD fb
          generalize q 0 = _q0, q 1 = _q1, q 2 = _q2, q 3 = _q3, q 4 = _q4, q 5 = _q5, q 6 = _q6, q 7 = _q7, q 8 = _q8, q 9 = _q9, q 10 = _q10, q 11 = _q11
          have HWW := Lib.hid hW
          have HOWN := Lib.hid hown
          have HVA := Lib.hid hva
          have HPP := Lib.hid hp
          have hlen : Hid ((L ++ [(⟨at' + p, k, x, y, z⟩ : Ev)]).length = ll + 1) := by show _ = _; rw [List.length_append, HLL.out]; rfl
          have HSZ : Hid (w4.heap.size ≤ u.heap.size) := by have := lt_of_block hW.q; have := HQ.out; show _ ≤ _; omega
          clear hW hown hva hp
          go_wp2_with fail
          go_roundw
          case rel => exact ⟨m + 1, va, vc, L ++ [⟨at' + p, k, x, y, z⟩], by have := HLT.out; omega, by go_num, by rw [hlen.out], HDM.out p HPP.out, HWW.out.g, HWW.out.t, by rw [stP_snoc]; exact HWW.out.r, by rw [stL_snoc]; exact HWW.out.own, by rw [hlen.out]; exact HOWN.out, HVA.out, HWW.out.cur, HWW.out.only, HSZ.out⟩
          case measure => have := HLT.out; simp [intOf]; omega
    case neg =>
      have t5 : decide ((5 : Int) < k) = false := decide_eq_false h5
      go_wp2_with fail
      clear t5 h5
      have HS7 : Hid (w5.heap.size < (w5.alloc (.cells #[.int .i64 k, .int .i64 x, .int .i64 y, .int .i64 z] 39)).heap.size) := by have := HS6.out; show _ < _; omega
      generalize (w5.alloc (.cells #[.int .i64 k, .int .i64 x, .int .i64 y, .int .i64 z] 39)) = w7 at g6 p6 r6 q6 HC6 HO6 OW6 EV6 HS6 HS7 ⊢
      have g7 := g6
      have p7 := p6
      have r7 := r6
      have q7 := q6
      have HC7 := HC6
      have HO7 := HO6
      have OW7 := OW6
      have EV7 := EV6
      clear HS6 g6 p6 r6 q6 HC6 HO6 OW6 EV6
      refine (specMay_is aa N cc (stL N L) (stP L) k x y z mv HMV.out HKK.out (fun _ => HXX.out) (stL_length _ _) (by omega) _ OW7.out.row).mono ?_
      rintro e w8 ⟨rfl, hb8⟩
      have g8 := keep_block hb8 g7 (lt_of_block g7)
      have p8 := keep_block hb8 p7 (lt_of_block p7)
      have r8 := keep_block hb8 r7 (lt_of_block r7)
      have q8 := keep_block hb8 q7 (lt_of_block q7)
      have OW8 := Lib.hid (OW7.out.below hb8)
      have EV8 := Lib.hid (EV7.out.below hb8)
      have HC8 : Hid (Cur c B w8) := HC7.out.keep (hb8.block _ HC7.out.lt) (hb8.mono (by have := HC7.out.lt; omega))
      have HO8 : Hid (Only c w w8) := HO7.out.past (hb8.mono HO7.out.size)
      have HS8 : Hid (w5.heap.size < w8.heap.size) := Nat.lt_of_lt_of_le HS7.out hb8.size
      clear hb8 g7 p7 r7 q7 OW7 EV7 HC7 HO7 HS7 d0 d1 e0 e1 e2 e3
      cases mv
      case false =>
        go_wp2_with fail
        go_roundw
        case rel => exact ⟨m + 1, ua, uc, L, by have := HLT.out; omega, by go_num, by rw [HLL.out], HDR.out.same, g8, p8, r8, OW8.out, by rw [HLL.out]; exact EV8.out, HUA.out, HC8.out, HO8.out, by have := HS8.out; have := HQ.out; omega⟩
        case measure => have := HLT.out; simp [intOf]; omega
      have HLN : Hid (ll ≤ m) := by have := HDR.out.few; have := HLL.out; show _ ≤ _; omega
      obtain ⟨hrk, _⟩ := st_ok HG.out HN.out HDR.out.ok
      have HAL : Hid (allowR g0 Bk_ g2 g3 (stL N L) (stP L) k x y z = true) := by
        show _ = _
        unfold allowR
        rw [HMV.out, decide_eq_true ⟨hrk, HCM.out.1, HCM.out.2⟩]
        rfl
      have hnx := nextT_le (B := Bk_) HT.out (L := L) (k := k) (x := x) (M := 140 * (m : Int)) (by omega) HDR.out.low
      have hnx0 := nextT_nonneg (B := Bk_) (t := t) (L := L) (k := k) (x := x)
      obtain ⟨at', hat'⟩ : ∃ at', nextT Bk_ t L k x = at' := ⟨_, rfl⟩
      have HAT := Lib.hid hat'
      rw [hat'] at hnx hnx0
      have hXl := HX.out
      have hLT := HLT.out
      have HEA : Hid (earlyF g0 Bk_ g2 g3 t N L k x y z = at') := by
        show _ = _
        unfold earlyF
        rw [if_pos ⟨⟨by unfold traceF; rw [if_pos ⟨HG.out, HT.out, by have := HLN.out; have := HLL.out; omega⟩]; exact HDR.out.ok, HAL.out, by have := HLN.out; have := HLL.out; omega⟩, by rw [hat']; omega⟩]
        exact hat'
      have t9 : decide (at' < 0) = false := decide_eq_false (by omega)
      have HAR : Hid (0 ≤ at' ∧ at' ≤ 140 * 29 + 128) := ⟨hnx0, by omega⟩
      have HUQ : Hid (∀ x, ua = some x → x.block ≠ w5.heap.size) := HUB.out
      clear hrk hat' hnx hnx0
      obtain ⟨c0, c1, c2, c3⟩ := cells4 g8
      obtain ⟨e0, e1, e2, e3⟩ := cells4 q8
      go_wp2_with ((with_reducible refine ld_tm ?_ ?_ p8 ?_); kernel_rfl; kernel_rfl; go_simp)
      refine (specEarly_of (Lib.hid specEnd_is) t g0 Bk_ g2 g3 ua ll uc L k x y z N HN.out at' HEA.out HLL.out (by have := HLN.out; omega) EV8.out.cap.1 _ EV8.out.row).mono ?_
      rintro e w9 ⟨rfl, hb9⟩
      have g9 := keep_block hb9 g8 (lt_of_block g8)
      have p9 := keep_block hb9 p8 (lt_of_block p8)
      have r9 := keep_block hb9 r8 (lt_of_block r8)
      have q9 := keep_block hb9 q8 (lt_of_block q8)
      have own9 := OW8.out.below hb9
      have EV9 := Lib.hid (EV8.out.below hb9)
      have HC9 : Hid (Cur c B w9) := HC8.out.keep (hb9.block _ HC8.out.lt) (hb9.mono (by have := HC8.out.lt; omega))
      have HO9 : Hid (Only c w w9) := HO8.out.past (hb9.mono HO8.out.size)
      have HS9 : Hid (w5.heap.size < w9.heap.size) := Nat.lt_of_lt_of_le HS8.out hb9.size
      clear hb9 g8 p8 r8 q8 OW8 EV8 HC8 HO8 HS8 c0 c1 c2 c3 e0 e1 e2 e3
      have HDO := Lib.hid (specDoX_is (B := w2.heap.size) (P := w3.heap.size) (y := y) (z := z) HKK.out (fun _ => HXX.out) (stL_length N L) (by omega) r9 own9 (fun x hx => by have := (HAA.out x hx).2; omega) HS3.out)
      obtain ⟨e0, e1, e2, e3⟩ := cells4 q9
      go_wp2_with fail
      refine HDO.out.mono ?_
      rintro e w10 ⟨rfl, r10, own10, hb10, hf10⟩
      have hS2 := HS2.out
      have g10 := keep_block hb10 g9 (by omega)
      have p10 := keep_block hb10 p9 (by omega)
      have q10 := (hf10 w5.heap.size HS9.out (by have := HQ.out; have := HS4.out; omega) (fun x hx => by have := (HAA.out x hx).2; have := HQ.out; have := HS4.out; omega)).trans q9
      have EV10 : Hid (evK.Own 41 w1.heap.size (.slice ua ll uc) L w10) := EV9.out.frame (fun x hx => by
        rcases HUA.out x hx with h | h
        · exact hb10.block _ h
        · exact hf10 _ (EV9.out.lo x hx).2 (by omega) (fun y hy => by have := (HAA.out y hy).2; omega))
      have HC10 : Hid (Cur c B w10) := HC9.out.keep (hb10.block _ (by omega)) (hb10.mono (by omega))
      have HO10 : Hid (Only c w w10) := HO9.out.past (hb10.mono (by omega))
      have HS10 : Hid (w5.heap.size < w10.heap.size) := lt_of_block q10
      have OW10 := Lib.hid own10
      clear hb10 hf10 own10 own9 g9 p9 r9 q9 EV9 HC9 HO9 HS9 HDO e0 e1 e2 e3 hS2
      have HC0 : Hid (TrCom w.heap.size w3.heap.size w5.heap.size c B w2.heap.size #[.int .i64 g0, .int .i64 Bk_, .int .i64 g2, .int .i64 g3] #[.int .i64 t.rcd, .int .i64 t.rp, .int .i64 t.ras, .int .i64 t.rrds, .int .i64 t.rrdl, .int .i64 t.faw, .int .i64 t.ccds, .int .i64 t.ccdl, .int .i64 t.rtp, .int .i64 t.wr, .int .i64 t.wtrs, .int .i64 t.wtrl, .int .i64 t.rtw, .int .i64 t.rfc, .int .i64 t.cke, .int .i64 t.xp, .int .i64 t.xs] #[.int .i64 k, .int .i64 x, .int .i64 y, .int .i64 z] aa N cc (doL (stL N L) k x y) (doP (stP L) k) w w10) := ⟨g10, p10, r10, q10, OW10.out, HC10.out, HO10.out, ⟨hBc, hcl, by have := HS2.out; omega, HS3.out, by have := HQ.out; have := HS4.out; omega, rfl⟩⟩
      have HDM : Hid (∀ p : Int, 0 ≤ p ∧ p ≤ 4 → Drawn g0 Bk_ g2 g3 t N (m + 1) (L ++ [⟨at' + p, k, x, y, z⟩])) := fun p hp => by
        rw [← HAT.out]
        exact HDR.out.more HT.out (by have := HX.out; have := HLT.out; omega) HAL.out hp
      clear g10 p10 r10 q10 OW10 HC10 HO10 HS10
      go_wp2_with fail
      refine wp_region_flowG (fun i' => match i' with | 0 => some (.slice ua ll uc) | 1 => some (.int .i64 at') | 2 => some (.pointer (some ⟨c, 0, none⟩)) | 4 => some (.pointer (some ⟨c, 0, none⟩)) | 8 => some (.agg #[.int .i64 k, .int .i64 x, .int .i64 y, .int .i64 z]) | _ => none) (fun listed X' u => TrCom w.heap.size w3.heap.size w5.heap.size c B w2.heap.size #[.int .i64 g0, .int .i64 Bk_, .int .i64 g2, .int .i64 g3] #[.int .i64 t.rcd, .int .i64 t.rp, .int .i64 t.ras, .int .i64 t.rrds, .int .i64 t.rrdl, .int .i64 t.faw, .int .i64 t.ccds, .int .i64 t.ccdl, .int .i64 t.rtp, .int .i64 t.wr, .int .i64 t.wtrs, .int .i64 t.wtrl, .int .i64 t.rtw, .int .i64 t.rfc, .int .i64 t.cke, .int .i64 t.xp, .int .i64 t.xs] #[.int .i64 k, .int .i64 x, .int .i64 y, .int .i64 z] aa N cc (doL (stL N L) k x y) (doP (stP L) k) w u ∧ UnlW 11 (fun u => evK.Own 41 w1.heap.size (.slice ua ll uc) L u) listed u ∧ UnlX 12 (.slice ua ll uc) listed X' ∧ Behind2 12 11 0 listed ∧ Fact 3 (fun q => ∃ b : Int, q = .int .i64 b ∧ (0 ≤ b ∧ b ≤ 1)) listed X' ∧ Fact 5 (fun q => ∃ b : Int, q = .int .i64 b ∧ (0 ≤ b ∧ b ≤ 4)) listed X' ∧ Fact 6 (fun q => ∃ b : Int, q = .int .i64 b ∧ (0 ≤ b ∧ b ≤ 4)) listed X' ∧ Fact 7 (fun q => ∃ p : Int, q = .int .i64 (at' + p) ∧ (0 ≤ p ∧ p ≤ 4)) listed X' ∧ Fact 9 (fun q => ∃ p : Int, q = .agg #[.int .i64 (at' + p), .int .i64 k, .int .i64 x, .int .i64 y, .int .i64 z] ∧ (0 ≤ p ∧ p ≤ 4)) listed X' ∧ FactW 10 11 (fun q u => ∃ (p : Int) (g : Nat), q = .slice (some ⟨g, 0, none⟩) 1 1 ∧ (0 ≤ p ∧ p ≤ 4) ∧ w5.heap.size < g ∧ u.heap[g]? = some (.cells #[.int .i64 (at' + p), .int .i64 k, .int .i64 x, .int .i64 y, .int .i64 z] 41)) listed X' u ∧ LstW 11 (fun q u => ∃ (p : Int) (va : Option Addr) (vc : Nat), q = .slice va (ll + 1) vc ∧ (0 ≤ p ∧ p ≤ 4) ∧ evK.Own 41 w1.heap.size (.slice va (ll + 1) vc) (L ++ [⟨at' + p, k, x, y, z⟩]) u ∧ ∀ x, va = some x → x.block < w2.heap.size ∨ w3.heap.size < x.block) listed X' u ∧ LstW 12 (fun q u => ∃ (p : Int) (va : Option Addr) (vc : Nat), q = .slice va (ll + 1) vc ∧ (0 ≤ p ∧ p ≤ 4) ∧ evK.Own 41 w1.heap.size (.slice va (ll + 1) vc) (L ++ [⟨at' + p, k, x, y, z⟩]) u ∧ ∀ x, va = some x → x.block < w2.heap.size ∨ w3.heap.size < x.block) listed X' u) (upd (upd (upd (upd (upd (upd (upd (upd (upd (upd (upd (upd (upd (fun _ => undef) 0 u53) 1 u54) 2 u55) 3 u56) 4 u57) 5 u58) 6 u59) 7 u60) 8 u61) 9 u62) 10 u63) 11 u64) 12 (.slice ua ll uc)) (by kernel_rfl) (by kernel_rfl) ?hx ?hS ?hs ?he
      case hx => simp only [putsX, Act.put, List.setIfInBounds_toArray, List.set_cons_zero, List.set_cons_succ, upd, Nat.reduceEqDiff, reduceIte]
      case hS => exact ⟨⟨HC0.out.g, HC0.out.t, HC0.out.r, HC0.out.q, HC0.out.own, HC0.out.cur, HC0.out.only.drew, HC0.out.lt⟩, fun _ => EV10.out, fun _ => rfl, fun h => (by rw [getD_replicate_false] at h; cases h), Fact.zero _ _ _ _, Fact.zero _ _ _ _, Fact.zero _ _ _ _, Fact.zero _ _ _ _, Fact.zero _ _ _ _, FactW.zero _ _ _ _ _ _, (fun h => by rw [getD_replicate_false] at h; cases h), (fun h => by rw [getD_replicate_false] at h; cases h)⟩
      case hs =>
        simp only [flowSteps]
        refine ⟨?s0, ?s1, ?s2, ?s3, ?s4, ?s5, ?s6, ?s7, ?s8, ?s9, ?s10, ?s11, ?s12, trivial⟩
        case s0 =>
          intro listed bb u hsz hn hwt hinv
          obtain ⟨X', rfl, hU, hW, hE, hX, hL, h3, h5, h6, h7, h9, hA, hB, hD⟩ := hinv
          simp only [putsX, Act.put, List.setIfInBounds_toArray, List.set_cons_zero, List.set_cons_succ]
          have hx12 := Lib.hid (hX (by
            cases h12 : listed.getD 12 false
            · rfl
            · have := (hL h12).2
              rw [hn] at this
              cases this))
          rw [hx12.out]
          go_wp2_with fail
          refine stepQ_normal ⟨trivial, upd X' 0 (.slice ua ll uc), ?_, hU.step (fun _ h => Option.some.inj h), hW, (fun h => by have h' : listed.getD 11 false = false := (by rwa [getD_set_ne false (by decide)] at h); exact hE h'), (fun h => by rw [upd_other _ _ (by decide)]; exact hX (by rwa [getD_set_ne false (by decide)] at h)), (fun h => by have h' := hL (by rwa [getD_set_ne false (by decide)] at h); exact ⟨getD_set_true h'.1, getD_set_true h'.2⟩), h3.keep (by decide) _, h5.keep (by decide) _, h6.keep (by decide) _, h7.keep (by decide) _, h9.keep (by decide) _, hA.keep (by decide) (by decide) _ id, (fun h => by rw [upd_other _ _ (by decide)]; exact id (hB (by rwa [getD_set_ne false (by decide)] at h))), (fun h => by rw [upd_other _ _ (by decide)]; exact id (hD (by rwa [getD_set_ne false (by decide)] at h)))⟩
          simp only [upd]
          simp only [hx12.out]
          (try rfl)
        case s1 =>
          intro listed bb u hsz hn hwt hinv
          obtain ⟨X', rfl, hU, hW, hE, hX, hL, h3, h5, h6, h7, h9, hA, hB, hD⟩ := hinv
          simp only [putsX, Act.put, List.setIfInBounds_toArray, List.set_cons_zero, List.set_cons_succ]
          go_wp2_with fail
          refine stepQ_normal ⟨trivial, upd X' 1 (.int .i64 at'), ?_, hU.step (fun _ h => Option.some.inj h), hW, (fun h => by have h' : listed.getD 11 false = false := (by rwa [getD_set_ne false (by decide)] at h); exact hE h'), (fun h => by rw [upd_other _ _ (by decide)]; exact hX (by rwa [getD_set_ne false (by decide)] at h)), (fun h => by have h' := hL (by rwa [getD_set_ne false (by decide)] at h); exact ⟨getD_set_true h'.1, getD_set_true h'.2⟩), h3.keep (by decide) _, h5.keep (by decide) _, h6.keep (by decide) _, h7.keep (by decide) _, h9.keep (by decide) _, hA.keep (by decide) (by decide) _ id, (fun h => by rw [upd_other _ _ (by decide)]; exact id (hB (by rwa [getD_set_ne false (by decide)] at h))), (fun h => by rw [upd_other _ _ (by decide)]; exact id (hD (by rwa [getD_set_ne false (by decide)] at h)))⟩
          simp only [upd]
          (try rfl)
        case s2 =>
          intro listed bb u hsz hn hwt hinv
          obtain ⟨X', rfl, hU, hW, hE, hX, hL, h3, h5, h6, h7, h9, hA, hB, hD⟩ := hinv
          simp only [putsX, Act.put, List.setIfInBounds_toArray, List.set_cons_zero, List.set_cons_succ]
          go_wp2_with fail
          refine stepQ_normal ⟨trivial, upd X' 2 (.pointer (some ⟨c, 0, none⟩)), ?_, hU.step (fun _ h => Option.some.inj h), hW, (fun h => by have h' : listed.getD 11 false = false := (by rwa [getD_set_ne false (by decide)] at h); exact hE h'), (fun h => by rw [upd_other _ _ (by decide)]; exact hX (by rwa [getD_set_ne false (by decide)] at h)), (fun h => by have h' := hL (by rwa [getD_set_ne false (by decide)] at h); exact ⟨getD_set_true h'.1, getD_set_true h'.2⟩), h3.keep (by decide) _, h5.keep (by decide) _, h6.keep (by decide) _, h7.keep (by decide) _, h9.keep (by decide) _, hA.keep (by decide) (by decide) _ id, (fun h => by rw [upd_other _ _ (by decide)]; exact id (hB (by rwa [getD_set_ne false (by decide)] at h))), (fun h => by rw [upd_other _ _ (by decide)]; exact id (hD (by rwa [getD_set_ne false (by decide)] at h)))⟩
          simp only [upd]
          (try rfl)
        case s3 =>
          intro listed bb u hsz hn hwt hinv
          obtain ⟨X', rfl, hU, hW, hE, hX, hL, h3, h5, h6, h7, h9, hA, hB, hD⟩ := hinv
          have f2 := Lib.hid (hU 2 _ rfl (hwt 2 (by kernel_rfl)))
          simp only [putsX, Act.put, List.setIfInBounds_toArray, List.set_cons_zero, List.set_cons_succ]
          have hcall : Calls Try.prog 79 #[X' 2, .int .i64 2] u (Drew c B 0 (topOf 2) u) := by rw [f2.out]; exact l01Below_any hW.cur 2 (by omega)
          go_wp2_with fail
          refine hcall.mono ?_
          rintro e' u' ⟨b, rfl, hl, hu, hc, ho⟩
          rw [topOf_pos (by omega)] at hu
          go_wp2_with fail
          refine stepQ_normal ⟨trivial, upd X' 3 (.int .i64 b), ?_, hU.step (fun _ h => by cases h), hW.draw hc ho, (fun h => by have h' : listed.getD 11 false = false := (by rwa [getD_set_ne false (by decide)] at h); exact (hE h').only ho (by have := hW.lt; have := HS1.out; omega)), (fun h => by rw [upd_other _ _ (by decide)]; exact hX (by rwa [getD_set_ne false (by decide)] at h)), (fun h => by have h' := hL (by rwa [getD_set_ne false (by decide)] at h); exact ⟨getD_set_true h'.1, getD_set_true h'.2⟩), Fact.new ⟨b, rfl, by omega⟩, h5.keep (by decide) _, h6.keep (by decide) _, h7.keep (by decide) _, h9.keep (by decide) _, hA.keep (by decide) (by decide) _ (fun ⟨p, g, a1, a2, a3, a4⟩ => ⟨p, g, a1, a2, a3, (ho.block _ (lt_of_block a4) (by have := hW.lt; omega)).trans a4⟩), (fun h => by rw [upd_other _ _ (by decide)]; exact (fun ⟨p, va, vc, a1, a2, a3, a4⟩ => ⟨p, va, vc, a1, a2, a3.only ho (by have := hW.lt; have := HS1.out; omega), a4⟩) (hB (by rwa [getD_set_ne false (by decide)] at h))), (fun h => by rw [upd_other _ _ (by decide)]; exact (fun ⟨p, va, vc, a1, a2, a3, a4⟩ => ⟨p, va, vc, a1, a2, a3.only ho (by have := hW.lt; have := HS1.out; omega), a4⟩) (hD (by rwa [getD_set_ne false (by decide)] at h)))⟩
          simp only [upd]
          (try rfl)
        case s4 =>
          intro listed bb u hsz hn hwt hinv
          obtain ⟨X', rfl, hU, hW, hE, hX, hL, h3, h5, h6, h7, h9, hA, hB, hD⟩ := hinv
          simp only [putsX, Act.put, List.setIfInBounds_toArray, List.set_cons_zero, List.set_cons_succ]
          go_wp2_with fail
          refine stepQ_normal ⟨trivial, upd X' 4 (.pointer (some ⟨c, 0, none⟩)), ?_, hU.step (fun _ h => Option.some.inj h), hW, (fun h => by have h' : listed.getD 11 false = false := (by rwa [getD_set_ne false (by decide)] at h); exact hE h'), (fun h => by rw [upd_other _ _ (by decide)]; exact hX (by rwa [getD_set_ne false (by decide)] at h)), (fun h => by have h' := hL (by rwa [getD_set_ne false (by decide)] at h); exact ⟨getD_set_true h'.1, getD_set_true h'.2⟩), h3.keep (by decide) _, h5.keep (by decide) _, h6.keep (by decide) _, h7.keep (by decide) _, h9.keep (by decide) _, hA.keep (by decide) (by decide) _ id, (fun h => by rw [upd_other _ _ (by decide)]; exact id (hB (by rwa [getD_set_ne false (by decide)] at h))), (fun h => by rw [upd_other _ _ (by decide)]; exact id (hD (by rwa [getD_set_ne false (by decide)] at h)))⟩
          simp only [upd]
          (try rfl)
        case s5 =>
          intro listed bb u hsz hn hwt hinv
          obtain ⟨X', rfl, hU, hW, hE, hX, hL, h3, h5, h6, h7, h9, hA, hB, hD⟩ := hinv
          have f4 := Lib.hid (hU 4 _ rfl (hwt 4 (by kernel_rfl)))
          simp only [putsX, Act.put, List.setIfInBounds_toArray, List.set_cons_zero, List.set_cons_succ]
          have hcall : Calls Try.prog 79 #[X' 4, .int .i64 5] u (Drew c B 0 (topOf 5) u) := by rw [f4.out]; exact l01Below_any hW.cur 5 (by omega)
          go_wp2_with fail
          refine hcall.mono ?_
          rintro e' u' ⟨b, rfl, hl, hu, hc, ho⟩
          rw [topOf_pos (by omega)] at hu
          go_wp2_with fail
          refine stepQ_normal ⟨trivial, upd X' 5 (.int .i64 b), ?_, hU.step (fun _ h => by cases h), hW.draw hc ho, (fun h => by have h' : listed.getD 11 false = false := (by rwa [getD_set_ne false (by decide)] at h); exact (hE h').only ho (by have := hW.lt; have := HS1.out; omega)), (fun h => by rw [upd_other _ _ (by decide)]; exact hX (by rwa [getD_set_ne false (by decide)] at h)), (fun h => by have h' := hL (by rwa [getD_set_ne false (by decide)] at h); exact ⟨getD_set_true h'.1, getD_set_true h'.2⟩), h3.keep (by decide) _, Fact.new ⟨b, rfl, by omega⟩, h6.keep (by decide) _, h7.keep (by decide) _, h9.keep (by decide) _, hA.keep (by decide) (by decide) _ (fun ⟨p, g, a1, a2, a3, a4⟩ => ⟨p, g, a1, a2, a3, (ho.block _ (lt_of_block a4) (by have := hW.lt; omega)).trans a4⟩), (fun h => by rw [upd_other _ _ (by decide)]; exact (fun ⟨p, va, vc, a1, a2, a3, a4⟩ => ⟨p, va, vc, a1, a2, a3.only ho (by have := hW.lt; have := HS1.out; omega), a4⟩) (hB (by rwa [getD_set_ne false (by decide)] at h))), (fun h => by rw [upd_other _ _ (by decide)]; exact (fun ⟨p, va, vc, a1, a2, a3, a4⟩ => ⟨p, va, vc, a1, a2, a3.only ho (by have := hW.lt; have := HS1.out; omega), a4⟩) (hD (by rwa [getD_set_ne false (by decide)] at h)))⟩
          simp only [upd]
          (try rfl)
        case s6 =>
          intro listed bb u hsz hn hwt hinv
          obtain ⟨X', rfl, hU, hW, hE, hX, hL, h3, h5, h6, h7, h9, hA, hB, hD⟩ := hinv
          simp only [putsX, Act.put, List.setIfInBounds_toArray, List.set_cons_zero, List.set_cons_succ]
          obtain ⟨b1, e1, hb1⟩ := h3 (hwt 3 (by kernel_rfl))
          obtain ⟨b2, e2, hb2⟩ := h5 (hwt 5 (by kernel_rfl))
          have E1 := Lib.hid e1
          have E2 := Lib.hid e2
          rw [E1.out, E2.out]
          clear e1 e2
          have hmul : 0 ≤ b1 * b2 ∧ b1 * b2 ≤ 4 := by
            have : b1 = 0 ∨ b1 = 1 := by omega
            rcases this with rfl | rfl <;> omega
          have m1 : IntKind.i64.wrap (b1 * b2) = b1 * b2 := IntWalk.i64_in _ (by omega)
          have HM := Lib.hid hmul
          clear hmul hb1 hb2
          go_wp2_with fail
          refine stepQ_normal ⟨trivial, upd X' 6 (.int .i64 (b1 * b2)), ?_, hU.step (fun _ h => by cases h), hW, (fun h => by have h' : listed.getD 11 false = false := (by rwa [getD_set_ne false (by decide)] at h); exact hE h'), (fun h => by rw [upd_other _ _ (by decide)]; exact hX (by rwa [getD_set_ne false (by decide)] at h)), (fun h => by have h' := hL (by rwa [getD_set_ne false (by decide)] at h); exact ⟨getD_set_true h'.1, getD_set_true h'.2⟩), h3.keep (by decide) _, h5.keep (by decide) _, Fact.new ⟨b1 * b2, rfl, HM.out⟩, h7.keep (by decide) _, h9.keep (by decide) _, hA.keep (by decide) (by decide) _ id, (fun h => by rw [upd_other _ _ (by decide)]; exact id (hB (by rwa [getD_set_ne false (by decide)] at h))), (fun h => by rw [upd_other _ _ (by decide)]; exact id (hD (by rwa [getD_set_ne false (by decide)] at h)))⟩
          simp only [upd]
          simp only [E1.out, E2.out]
          (try rfl)
        case s7 =>
          intro listed bb u hsz hn hwt hinv
          obtain ⟨X', rfl, hU, hW, hE, hX, hL, h3, h5, h6, h7, h9, hA, hB, hD⟩ := hinv
          have f1 := Lib.hid (hU 1 _ rfl (hwt 1 (by kernel_rfl)))
          simp only [putsX, Act.put, List.setIfInBounds_toArray, List.set_cons_zero, List.set_cons_succ]
          rw [f1.out]
          obtain ⟨p, e1, hp⟩ := h6 (hwt 6 (by kernel_rfl))
          have E1 := Lib.hid e1
          have HP := Lib.hid hp
          rw [E1.out]
          clear e1 hp
          have m1 : IntKind.i64.wrap (at' + p) = at' + p := IntWalk.i64_in _ (by have := HAR.out; have := HP.out; omega)
          go_wp2_with fail
          refine stepQ_normal ⟨trivial, upd X' 7 (.int .i64 (at' + p)), ?_, hU.step (fun _ h => by cases h), hW, (fun h => by have h' : listed.getD 11 false = false := (by rwa [getD_set_ne false (by decide)] at h); exact hE h'), (fun h => by rw [upd_other _ _ (by decide)]; exact hX (by rwa [getD_set_ne false (by decide)] at h)), (fun h => by have h' := hL (by rwa [getD_set_ne false (by decide)] at h); exact ⟨getD_set_true h'.1, getD_set_true h'.2⟩), h3.keep (by decide) _, h5.keep (by decide) _, h6.keep (by decide) _, Fact.new ⟨p, rfl, HP.out⟩, h9.keep (by decide) _, hA.keep (by decide) (by decide) _ id, (fun h => by rw [upd_other _ _ (by decide)]; exact id (hB (by rwa [getD_set_ne false (by decide)] at h))), (fun h => by rw [upd_other _ _ (by decide)]; exact id (hD (by rwa [getD_set_ne false (by decide)] at h)))⟩
          simp only [upd]
          simp only [f1.out, E1.out]
          (try rfl)
        case s8 =>
          intro listed bb u hsz hn hwt hinv
          obtain ⟨X', rfl, hU, hW, hE, hX, hL, h3, h5, h6, h7, h9, hA, hB, hD⟩ := hinv
          simp only [putsX, Act.put, List.setIfInBounds_toArray, List.set_cons_zero, List.set_cons_succ]
          obtain ⟨e0, e1, e2, e3⟩ := cells4 hW.q
          go_wp2_with fail
          refine stepQ_normal ⟨trivial, upd X' 8 (.agg #[.int .i64 k, .int .i64 x, .int .i64 y, .int .i64 z]), ?_, hU.step (fun _ h => Option.some.inj h), hW, (fun h => by have h' : listed.getD 11 false = false := (by rwa [getD_set_ne false (by decide)] at h); exact hE h'), (fun h => by rw [upd_other _ _ (by decide)]; exact hX (by rwa [getD_set_ne false (by decide)] at h)), (fun h => by have h' := hL (by rwa [getD_set_ne false (by decide)] at h); exact ⟨getD_set_true h'.1, getD_set_true h'.2⟩), h3.keep (by decide) _, h5.keep (by decide) _, h6.keep (by decide) _, h7.keep (by decide) _, h9.keep (by decide) _, hA.keep (by decide) (by decide) _ id, (fun h => by rw [upd_other _ _ (by decide)]; exact id (hB (by rwa [getD_set_ne false (by decide)] at h))), (fun h => by rw [upd_other _ _ (by decide)]; exact id (hD (by rwa [getD_set_ne false (by decide)] at h)))⟩
          simp only [upd]
          (try rfl)
        case s9 =>
          intro listed bb u hsz hn hwt hinv
          obtain ⟨X', rfl, hU, hW, hE, hX, hL, h3, h5, h6, h7, h9, hA, hB, hD⟩ := hinv
          have f8 := Lib.hid (hU 8 _ rfl (hwt 8 (by kernel_rfl)))
          simp only [putsX, Act.put, List.setIfInBounds_toArray, List.set_cons_zero, List.set_cons_succ]
          rw [f8.out]
          obtain ⟨p, e1, hp⟩ := h7 (hwt 7 (by kernel_rfl))
          have E1 := Lib.hid e1
          have HP := Lib.hid hp
          rw [E1.out]
          clear e1 hp
          go_wp2_with fail
          refine stepQ_normal ⟨trivial, upd X' 9 (.agg #[.int .i64 (at' + p), .int .i64 k, .int .i64 x, .int .i64 y, .int .i64 z]), ?_, hU.step (fun _ h => by cases h), hW, (fun h => by have h' : listed.getD 11 false = false := (by rwa [getD_set_ne false (by decide)] at h); exact hE h'), (fun h => by rw [upd_other _ _ (by decide)]; exact hX (by rwa [getD_set_ne false (by decide)] at h)), (fun h => by have h' := hL (by rwa [getD_set_ne false (by decide)] at h); exact ⟨getD_set_true h'.1, getD_set_true h'.2⟩), h3.keep (by decide) _, h5.keep (by decide) _, h6.keep (by decide) _, h7.keep (by decide) _, Fact.new ⟨p, rfl, HP.out⟩, hA.keep (by decide) (by decide) _ id, (fun h => by rw [upd_other _ _ (by decide)]; exact id (hB (by rwa [getD_set_ne false (by decide)] at h))), (fun h => by rw [upd_other _ _ (by decide)]; exact id (hD (by rwa [getD_set_ne false (by decide)] at h)))⟩
          simp only [upd]
          simp only [f8.out, E1.out]
          (try rfl)
        case s10 =>
          intro listed bb u hsz hn hwt hinv
          obtain ⟨X', rfl, hU, hW, hE, hX, hL, h3, h5, h6, h7, h9, hA, hB, hD⟩ := hinv
          simp only [putsX, Act.put, List.setIfInBounds_toArray, List.set_cons_zero, List.set_cons_succ]
          obtain ⟨p, e1, hp⟩ := h9 (hwt 9 (by kernel_rfl))
          have E1 := Lib.hid e1
          have HP := Lib.hid hp
          rw [E1.out]
          clear e1 hp
          have hqs := lt_of_block hW.q
          go_wp2_with fail
          refine stepQ_normal ⟨trivial, upd X' 10 (.slice (some ⟨u.heap.size, 0, none⟩) 1 1), ?_, hU.step (fun _ h => by cases h), hW.alloc _, (fun h => by have h' : listed.getD 11 false = false := (by rwa [getD_set_ne false (by decide)] at h); exact (hE h').below (below_allocT _)), (fun h => by rw [upd_other _ _ (by decide)]; exact hX (by rwa [getD_set_ne false (by decide)] at h)), (fun h => by have h' := hL (by rwa [getD_set_ne false (by decide)] at h); exact ⟨getD_set_true h'.1, getD_set_true h'.2⟩), h3.keep (by decide) _, h5.keep (by decide) _, h6.keep (by decide) _, h7.keep (by decide) _, h9.keep (by decide) _, FactW.new ⟨p, u.heap.size, rfl, HP.out, hqs, heap_alloc_new _ _⟩, (fun h => by rw [upd_other _ _ (by decide)]; exact (fun ⟨p, va, vc, a1, a2, a3, a4⟩ => ⟨p, va, vc, a1, a2, a3.below (below_allocT _), a4⟩) (hB (by rwa [getD_set_ne false (by decide)] at h))), (fun h => by rw [upd_other _ _ (by decide)]; exact (fun ⟨p, va, vc, a1, a2, a3, a4⟩ => ⟨p, va, vc, a1, a2, a3.below (below_allocT _), a4⟩) (hD (by rwa [getD_set_ne false (by decide)] at h)))⟩
          simp only [upd]
          simp only [E1.out]
          (try rfl)
        case s11 =>
          intro listed bb u hsz hn hwt hinv
          obtain ⟨X', rfl, hU, hW, hE, hX, hL, h3, h5, h6, h7, h9, hA, hB, hD⟩ := hinv
          have f0 := Lib.hid (hU 0 _ rfl (hwt 0 (by kernel_rfl)))
          simp only [putsX, Act.put, List.setIfInBounds_toArray, List.set_cons_zero, List.set_cons_succ]
          rw [f0.out]
          obtain ⟨p, g, e1, hp, hgq, hg⟩ := hA (hwt 10 (by kernel_rfl)) hn
          have E1 := Lib.hid e1
          have HP := Lib.hid hp
          have evs := hE hn
          rw [E1.out]
          clear e1 hp
          have hcn := cells5 hg
          have hnl := HLN.out
          have hlo := evs.lo
          have hlt := hW.lt
          have hos := hW.only.size
          have hws : w1.heap.size ≤ u.heap.size := by have := lt_of_block hW.r; have := HS3.out; have := HS2.out; have := HS1.out; omega
          go_wp2_with (at_builtin; refine wpList_append_own_at _ rfl _ _ 28 rfl w1.heap.size 41 i0 (.agg #[.int .i64 0, .int .i64 0, .int .i64 0, .int .i64 0, .int .i64 0]) 5 40 Try.underlying28 hi hz0 hz1 hz2 rfl (by decide) _ _ _ rfl evs ⟨g, 0, none⟩ 1 1 [.int .i64 (at' + p), .int .i64 k, .int .i64 x, .int .i64 y, .int .i64 z] rfl rfl (five_new hcn) (by intro v hv; simp only [List.mem_cons, List.not_mem_nil, or_false] at hv; rcases hv with rfl | rfl | rfl | rfl | rfl <;> rfl) (by have := HLL.out; unfold maxLen; omega) (by have := HLL.out; omega) hws ?_)
          intro v' u' hown hgrow _ hat
          have R : evK.Own 41 w1.heap.size v' (L ++ [⟨at' + p, k, x, y, z⟩]) u' := Kd.Own.more hown
          obtain ⟨va, vc, hv⟩ := R.shape
          have hlen : (L ++ [(⟨at' + p, k, x, y, z⟩ : Ev)]).length = ll + 1 := by rw [List.length_append, HLL.out]; rfl
          rw [hlen] at hv
          subst hv
          have HWN : Hid (TrCom w.heap.size w3.heap.size w5.heap.size c B w2.heap.size #[.int .i64 g0, .int .i64 Bk_, .int .i64 g2, .int .i64 g3] #[.int .i64 t.rcd, .int .i64 t.rp, .int .i64 t.ras, .int .i64 t.rrds, .int .i64 t.rrdl, .int .i64 t.faw, .int .i64 t.ccds, .int .i64 t.ccdl, .int .i64 t.rtp, .int .i64 t.wr, .int .i64 t.wtrs, .int .i64 t.wtrl, .int .i64 t.rtw, .int .i64 t.rfc, .int .i64 t.cke, .int .i64 t.xp, .int .i64 t.xs] #[.int .i64 k, .int .i64 x, .int .i64 y, .int .i64 z] aa N cc (doL (stL N L) k x y) (doP (stP L) k) w u') := hW.grown hgrow (fun a ha => by
            have h1 := hlo a ha
            have h2 := HUA.out a ha
            have h3 := HUQ.out a ha
            refine ⟨by have := HS1.out; omega, by omega, h3, fun b hb => ?_⟩
            have := HAA.out b hb
            omega)
          have HVA : Hid (∀ x, va = some x → x.block < w2.heap.size ∨ w3.heap.size < x.block) := fun a ha => by
            subst ha
            rcases hat with hat | hat
            · obtain ⟨b, hb, hbi⟩ := slice_block hat.symm
              rw [← hbi]
              exact HUA.out b hb
            · have hxi : a.block = u.heap.size := Option.some.inj hat
              have := lt_of_block hW.r
              omega
          have RR := Lib.hid R
          clear hown hgrow hat R hcn hlo hlt hos hws hlen evs hnl
          refine stepQ_normal ⟨trivial, upd X' 11 (.slice va (ll + 1) vc), ?_, hU.step (fun _ h => by cases h), HWN.out, (fun h => by rw [get_set_same false (by rw [hsz]; decide)] at h; cases h), (fun h => by rw [upd_other _ _ (by decide)]; exact hX (by rwa [getD_set_ne false (by decide)] at h)), (fun h => by have h' := hL (by rwa [getD_set_ne false (by decide)] at h); exact ⟨getD_set_true h'.1, getD_set_true h'.2⟩), h3.keep (by decide) _, h5.keep (by decide) _, h6.keep (by decide) _, h7.keep (by decide) _, h9.keep (by decide) _, FactW.call (by rw [hsz]; decide), (fun _ => by rw [upd_same]; exact ⟨p, va, vc, rfl, HP.out, RR.out, HVA.out⟩), (fun h1 => by have h' := (hL (by rwa [getD_set_ne false (by decide)] at h1)).1; rw [hn] at h'; cases h')⟩
          simp only [upd]
          simp only [f0.out, E1.out]
          (try rfl)
        case s12 =>
          intro listed bb u hsz hn hwt hinv
          obtain ⟨X', rfl, hU, hW, hE, hX, hL, h3, h5, h6, h7, h9, hA, hB, hD⟩ := hinv
          simp only [putsX, Act.put, List.setIfInBounds_toArray, List.set_cons_zero, List.set_cons_succ]
          obtain ⟨p, va, vc, e1, hp, hown, hva⟩ := hB (hwt 11 (by kernel_rfl))
          have E1 := Lib.hid e1
          rw [E1.out]
          clear e1
          go_wp2_with fail
          refine stepQ_normal ⟨trivial, upd X' 12 (.slice va (ll + 1) vc), ?_, hU.step (fun _ h => by cases h), hW, (fun h => by have h' : listed.getD 11 false = false := (by rwa [getD_set_ne false (by decide)] at h); exact hE h'), (fun h => by rw [get_set_same false (by rw [hsz]; decide)] at h; cases h), (fun _ => ⟨getD_set_true (hwt 11 (by kernel_rfl)), getD_set_true (hwt 0 (by kernel_rfl))⟩), h3.keep (by decide) _, h5.keep (by decide) _, h6.keep (by decide) _, h7.keep (by decide) _, h9.keep (by decide) _, hA.keep (by decide) (by decide) _ id, (fun h => by rw [upd_other _ _ (by decide)]; exact id (hB (by rwa [getD_set_ne false (by decide)] at h))), (fun _ => by rw [upd_same]; exact ⟨p, va, vc, rfl, hp, hown, hva⟩)⟩
          simp only [upd]
          simp only [E1.out]
          (try rfl)
      case he =>
        intro listed q u hall hU hS
        obtain ⟨hW, hE, hX, hL, h3, h5, h6, h7, h9, hA, hB, hD⟩ := hS
        obtain ⟨p, va, vc, fb, hp, hown, hva⟩ := hD (hall 12 (by decide))
        simp only [putsX, Act.put, List.setIfInBounds_toArray, List.set_cons_zero, List.set_cons_succ]
        rw [fb]
        clear hall hU hE hX hL h3 h5 h6 h7 h9 hA hB hD fb
        generalize q 0 = _q0, q 1 = _q1, q 2 = _q2, q 3 = _q3, q 4 = _q4, q 5 = _q5, q 6 = _q6, q 7 = _q7, q 8 = _q8, q 9 = _q9, q 10 = _q10, q 11 = _q11
        have HWW := Lib.hid hW
        have HOWN := Lib.hid hown
        have HVA := Lib.hid hva
        have HPP := Lib.hid hp
        have hlen : Hid ((L ++ [(⟨at' + p, k, x, y, z⟩ : Ev)]).length = ll + 1) := by show _ = _; rw [List.length_append, HLL.out]; rfl
        have HSZ : Hid (w4.heap.size ≤ u.heap.size) := by have := lt_of_block hW.q; have := HQ.out; show _ ≤ _; omega
        clear hW hown hva hp
        go_wp2_with fail
        go_roundw
        case rel => exact ⟨m + 1, va, vc, L ++ [⟨at' + p, k, x, y, z⟩], by have := HLT.out; omega, by go_num, by rw [hlen.out], HDM.out p HPP.out, HWW.out.g, HWW.out.t, by rw [stP_snoc]; exact HWW.out.r, by rw [stL_snoc]; exact HWW.out.own, by rw [hlen.out]; exact HOWN.out, HVA.out, HWW.out.cur, HWW.out.only, HSZ.out⟩
        case measure => have := HLT.out; simp [intOf]; omega

end Go.Proofs.Ythplhjdfajhmpaa

namespace Go.Proofs.Ythplhjdfajhmpaa
open Go.RowKit Go.PlainAid

set_option linter.unusedVariables false

theorem ld_same {ops : Array Oper} {rest : List Oper} {a : Act} {w : World} {Q : Act → Prop} {d : Tmp} {x : Operand} {y : TypeId} {p : String} {af : Array Edge} {gd : Option (Nat × Bool)} {c : Nat} {t : Tm} {ty : TypeId} {fr : Nat × Nat}
    (hw : Region.wanted ⟨some d, .load 27 x, y, p, af, gd⟩ (yielded ops a.tmps) = true) (hx : a.eval x = .pointer (some ⟨c, 0, none⟩)) (h : w.heap[c]? = some (.cells #[.int .i64 t.rcd, .int .i64 t.rp, .int .i64 t.ras, .int .i64 t.rrds, .int .i64 t.rrdl, .int .i64 t.faw, .int .i64 t.ccds, .int .i64 t.ccdl, .int .i64 t.rtp, .int .i64 t.wr, .int .i64 t.wtrs, .int .i64 t.wtrl, .int .i64 t.rtw, .int .i64 t.rfc, .int .i64 t.cke, .int .i64 t.xp, .int .i64 t.xs] ty fr))
    (k : wpQuiet Try.prog ops (fun w' => ∃ z : Same w, w' = z.to) Q rest (a.put (some d) (.agg #[.int .i64 t.rcd, .int .i64 t.rp, .int .i64 t.ras, .int .i64 t.rrds, .int .i64 t.rrdl, .int .i64 t.faw, .int .i64 t.ccds, .int .i64 t.ccdl, .int .i64 t.rtp, .int .i64 t.wr, .int .i64 t.wtrs, .int .i64 t.wtrl, .int .i64 t.rtw, .int .i64 t.rfc, .int .i64 t.cke, .int .i64 t.xp, .int .i64 t.xs]))) : wpQuiet Try.prog ops (fun w' => ∃ z : Same w, w' = z.to) Q (⟨some d, .load 27 x, y, p, af, gd⟩ :: rest) a :=
  load_quiet Try.underlying27 rfl (by kernel_rfl) hw hx (fun _ ⟨z, hz⟩ => ⟨ty, fr, by rw [hz, z.ok]; exact h⟩) k

/-- What a drawn case leaves. -/
def DrewCase (c B : Nat) (w : World) (e : Ending) (w' : World) : Prop :=
  ∃ (g0 Bk_ g2 g3 : Int) (t : Tm) (N : Nat) (a : Option Addr) (cap : Nat) (L : List Ev), e = .returned (.tuple #[.agg #[.int .i64 g0, .int .i64 Bk_, .int .i64 g2, .int .i64 g3], .agg #[.int .i64 t.rcd, .int .i64 t.rp, .int .i64 t.ras, .int .i64 t.rrds, .int .i64 t.rrdl, .int .i64 t.faw, .int .i64 t.ccds, .int .i64 t.ccdl, .int .i64 t.rtp, .int .i64 t.wr, .int .i64 t.wtrs, .int .i64 t.wtrl, .int .i64 t.rtw, .int .i64 t.rfc, .int .i64 t.cke, .int .i64 t.xp, .int .i64 t.xs], .slice a L.length cap]) ∧ ((1 ≤ g0 ∧ g0 ≤ 2) ∧ (1 ≤ Bk_ ∧ Bk_ ≤ 4) ∧ (2 ≤ g2 ∧ g2 ≤ 8) ∧ (1 ≤ g3 ∧ g3 ≤ 4)) ∧ TimOk t ∧ bankN g0 Bk_ g2 g3 = (N : Int) ∧ Drawn g0 Bk_ g2 g3 t N 29 L ∧ evK.Own 41 w.heap.size (.slice a L.length cap) L w' ∧ Cur c B w' ∧ Only c w w'

set_option maxHeartbeats 16000000 in
set_option maxRecDepth 100000 in
theorem l09Case_any {c B : Nat} {w : World} (hc : Cur c B w) :
    Calls Try.prog 39 #[.pointer (some ⟨c, 0, none⟩)] w (DrewCase c B w) := by
  have hcl := hc.lt
  have hBc : B ≤ c := by obtain ⟨_, _, _, _, _, _, _, h, _⟩ := hc; exact h
  obtain ⟨w1, hw1⟩ : ∃ u, (w.alloc (.cells #[.int .i64 0, .int .i64 0, .int .i64 0, .int .i64 0] 25)).alloc (.cells #[.int .i64 0, .int .i64 0, .int .i64 0, .int .i64 0, .int .i64 0, .int .i64 0, .int .i64 0, .int .i64 0, .int .i64 0, .int .i64 0, .int .i64 0, .int .i64 0, .int .i64 0, .int .i64 0, .int .i64 0, .int .i64 0, .int .i64 0] 27) = u := ⟨_, rfl⟩
  have y1 : w1.heap[w.heap.size]? = some (.cells #[.int .i64 0, .int .i64 0, .int .i64 0, .int .i64 0] 25) := by subst hw1; exact heap_alloc2_old _ _ _
  have z1 : w1.heap[w.heap.size + 1]? = some (.cells #[.int .i64 0, .int .i64 0, .int .i64 0, .int .i64 0, .int .i64 0, .int .i64 0, .int .i64 0, .int .i64 0, .int .i64 0, .int .i64 0, .int .i64 0, .int .i64 0, .int .i64 0, .int .i64 0, .int .i64 0, .int .i64 0, .int .i64 0] 27) := by subst hw1; exact heap_alloc2_new _ _ _
  have HC1 : Hid (Cur c B w1) := by subst hw1; exact (hc.alloc _).alloc _
  have HO1 : Hid (Only c w w1) := by subst hw1; exact ((Only.refl c w).alloc _).alloc _
  have HS1 : Hid (w1.heap.size = w.heap.size + 2) := by subst hw1; show _ = _; simp
  clear hc
  go_enter Try.func39, Try.ntmps39
  go_wp2_with fail
  refine (l03Geo_any HC1.out).mono ?_
  rintro e w2 ⟨g0, Bk_, g2, g3, rfl, hok, hc2, ho2⟩
  have y2 := (ho2.block _ (lt_of_block y1) (by omega)).trans y1
  have z2 := (ho2.block _ (lt_of_block z1) (by omega)).trans z1
  have HO2 := HO1.out.trans ho2
  have HS2 : Hid (w1.heap.size ≤ w2.heap.size) := ho2.size
  have HOK := Lib.hid hok
  clear hok ho2 y1 z1 HC1 HO1 hw1
  have hb3 : Below w2.heap.size w2 (w2.alloc (.cells #[.int .i64 g0, .int .i64 Bk_, .int .i64 g2, .int .i64 g3] 25)) := (Below.refl _ _).alloc (Nat.le_refl _) _
  have y3 := keep_block hb3 y2 (lt_of_block y2)
  have z3 := keep_block hb3 z2 (lt_of_block z2)
  have gv3 := heap_alloc_new w2 (.cells #[.int .i64 g0, .int .i64 Bk_, .int .i64 g2, .int .i64 g3] 25)
  have HC3 : Hid (Cur c B (w2.alloc (.cells #[.int .i64 g0, .int .i64 Bk_, .int .i64 g2, .int .i64 g3] 25))) := hc2.alloc _
  have HO3 : Hid (Only c w (w2.alloc (.cells #[.int .i64 g0, .int .i64 Bk_, .int .i64 g2, .int .i64 g3] 25))) := HO2.alloc _
  have HS3 : Hid ((w2.alloc (.cells #[.int .i64 g0, .int .i64 Bk_, .int .i64 g2, .int .i64 g3] 25)).heap.size = w2.heap.size + 1) := by show _ = _; simp
  clear hb3 y2 z2 hc2 HO2
  go_wp2_with fail
  generalize (w2.alloc (.cells #[.int .i64 g0, .int .i64 Bk_, .int .i64 g2, .int .i64 g3] 25)) = w3 at y3 z3 gv3 HC3 HO3 HS3 ⊢
  refine (l07TimeOk_any HC3.out).mono ?_
  rintro e w4 ⟨t, rfl, hto, hc4, ho4⟩
  have hs2 := HS2.out
  have hs1 := HS1.out
  have y4 := (ho4.block _ (lt_of_block y3) (by omega)).trans y3
  have z4 := (ho4.block _ (lt_of_block z3) (by omega)).trans z3
  have gv4 := (ho4.block _ (lt_of_block gv3) (by omega)).trans gv3
  have HO4 := HO3.out.trans ho4
  have HS4 : Hid (w3.heap.size ≤ w4.heap.size) := ho4.size
  have HTO := Lib.hid hto
  clear hto ho4 y3 z3 gv3 HC3 HO3 hs1 hs2
  have hb5 : Below w4.heap.size w4 (w4.alloc (.cells #[.int .i64 0, .int .i64 0, .int .i64 0, .int .i64 0, .int .i64 0, .int .i64 0, .int .i64 0, .int .i64 0, .int .i64 0, .int .i64 0, .int .i64 0, .int .i64 0, .int .i64 0, .int .i64 0, .int .i64 0, .int .i64 0, .int .i64 0] 27)) := (Below.refl _ _).alloc (Nat.le_refl _) _
  have hn := heap_alloc_new w4 (.cells #[.int .i64 0, .int .i64 0, .int .i64 0, .int .i64 0, .int .i64 0, .int .i64 0, .int .i64 0, .int .i64 0, .int .i64 0, .int .i64 0, .int .i64 0, .int .i64 0, .int .i64 0, .int .i64 0, .int .i64 0, .int .i64 0, .int .i64 0] 27)
  have tv5 := setRow_same _ _ #[.int .i64 t.rcd, .int .i64 t.rp, .int .i64 t.ras, .int .i64 t.rrds, .int .i64 t.rrdl, .int .i64 t.faw, .int .i64 t.ccds, .int .i64 t.ccdl, .int .i64 t.rtp, .int .i64 t.wr, .int .i64 t.wtrs, .int .i64 t.wtrl, .int .i64 t.rtw, .int .i64 t.rfc, .int .i64 t.cke, .int .i64 t.xp, .int .i64 t.xs] _ _ hn
  have y5 := (setRow_other (w4.alloc (.cells #[.int .i64 0, .int .i64 0, .int .i64 0, .int .i64 0, .int .i64 0, .int .i64 0, .int .i64 0, .int .i64 0, .int .i64 0, .int .i64 0, .int .i64 0, .int .i64 0, .int .i64 0, .int .i64 0, .int .i64 0, .int .i64 0, .int .i64 0] 27)) w4.heap.size _ #[.int .i64 t.rcd, .int .i64 t.rp, .int .i64 t.ras, .int .i64 t.rrds, .int .i64 t.rrdl, .int .i64 t.faw, .int .i64 t.ccds, .int .i64 t.ccdl, .int .i64 t.rtp, .int .i64 t.wr, .int .i64 t.wtrs, .int .i64 t.wtrl, .int .i64 t.rtw, .int .i64 t.rfc, .int .i64 t.cke, .int .i64 t.xp, .int .i64 t.xs] (Nat.ne_of_lt (lt_of_block y4))).trans (keep_block hb5 y4 (lt_of_block y4))
  have z5 := (setRow_other (w4.alloc (.cells #[.int .i64 0, .int .i64 0, .int .i64 0, .int .i64 0, .int .i64 0, .int .i64 0, .int .i64 0, .int .i64 0, .int .i64 0, .int .i64 0, .int .i64 0, .int .i64 0, .int .i64 0, .int .i64 0, .int .i64 0, .int .i64 0, .int .i64 0] 27)) w4.heap.size _ #[.int .i64 t.rcd, .int .i64 t.rp, .int .i64 t.ras, .int .i64 t.rrds, .int .i64 t.rrdl, .int .i64 t.faw, .int .i64 t.ccds, .int .i64 t.ccdl, .int .i64 t.rtp, .int .i64 t.wr, .int .i64 t.wtrs, .int .i64 t.wtrl, .int .i64 t.rtw, .int .i64 t.rfc, .int .i64 t.cke, .int .i64 t.xp, .int .i64 t.xs] (Nat.ne_of_lt (lt_of_block z4))).trans (keep_block hb5 z4 (lt_of_block z4))
  have gv5 := (setRow_other (w4.alloc (.cells #[.int .i64 0, .int .i64 0, .int .i64 0, .int .i64 0, .int .i64 0, .int .i64 0, .int .i64 0, .int .i64 0, .int .i64 0, .int .i64 0, .int .i64 0, .int .i64 0, .int .i64 0, .int .i64 0, .int .i64 0, .int .i64 0, .int .i64 0] 27)) w4.heap.size _ #[.int .i64 t.rcd, .int .i64 t.rp, .int .i64 t.ras, .int .i64 t.rrds, .int .i64 t.rrdl, .int .i64 t.faw, .int .i64 t.ccds, .int .i64 t.ccdl, .int .i64 t.rtp, .int .i64 t.wr, .int .i64 t.wtrs, .int .i64 t.wtrl, .int .i64 t.rtw, .int .i64 t.rfc, .int .i64 t.cke, .int .i64 t.xp, .int .i64 t.xs] (Nat.ne_of_lt (lt_of_block gv4))).trans (keep_block hb5 gv4 (lt_of_block gv4))
  have hsw : w.heap.size + 1 < w4.heap.size := by have := lt_of_block z4; omega
  have HC5 : Hid (Cur c B ((w4.alloc (.cells #[.int .i64 0, .int .i64 0, .int .i64 0, .int .i64 0, .int .i64 0, .int .i64 0, .int .i64 0, .int .i64 0, .int .i64 0, .int .i64 0, .int .i64 0, .int .i64 0, .int .i64 0, .int .i64 0, .int .i64 0, .int .i64 0, .int .i64 0] 27)).setRow w4.heap.size #[.int .i64 t.rcd, .int .i64 t.rp, .int .i64 t.ras, .int .i64 t.rrds, .int .i64 t.rrdl, .int .i64 t.faw, .int .i64 t.ccds, .int .i64 t.ccdl, .int .i64 t.rtp, .int .i64 t.wr, .int .i64 t.wtrs, .int .i64 t.wtrl, .int .i64 t.rtw, .int .i64 t.rfc, .int .i64 t.cke, .int .i64 t.xp, .int .i64 t.xs])) := (hc4.alloc _).keep (setRow_other _ _ _ _ (by omega)) (below_setRow (Below.refl _ _) (by omega) _)
  have HO5 : Hid (Only c w ((w4.alloc (.cells #[.int .i64 0, .int .i64 0, .int .i64 0, .int .i64 0, .int .i64 0, .int .i64 0, .int .i64 0, .int .i64 0, .int .i64 0, .int .i64 0, .int .i64 0, .int .i64 0, .int .i64 0, .int .i64 0, .int .i64 0, .int .i64 0, .int .i64 0] 27)).setRow w4.heap.size #[.int .i64 t.rcd, .int .i64 t.rp, .int .i64 t.ras, .int .i64 t.rrds, .int .i64 t.rrdl, .int .i64 t.faw, .int .i64 t.ccds, .int .i64 t.ccdl, .int .i64 t.rtp, .int .i64 t.wr, .int .i64 t.wtrs, .int .i64 t.wtrl, .int .i64 t.rtw, .int .i64 t.rfc, .int .i64 t.cke, .int .i64 t.xp, .int .i64 t.xs])) := (HO4.alloc _).trans' ⟨rfl, rfl, rfl, by simp⟩ (fun k hk hne => setRow_other _ _ _ _ (by omega))
  have HQ : Hid (w.heap.size + 1 < w2.heap.size ∧ w2.heap.size < w4.heap.size) := ⟨by have := HS1.out; have := HS2.out; omega, by have := HS3.out; have := HS4.out; omega⟩
  clear hb5 y4 z4 gv4 HO4 hc4
  go_wp2_with ((with_reducible refine store_list (cells := #[.int .i64 t.rcd, .int .i64 t.rp, .int .i64 t.ras, .int .i64 t.rrds, .int .i64 t.rrdl, .int .i64 t.faw, .int .i64 t.ccds, .int .i64 t.ccdl, .int .i64 t.rtp, .int .i64 t.wr, .int .i64 t.wtrs, .int .i64 t.wtrl, .int .i64 t.rtw, .int .i64 t.rfc, .int .i64 t.cke, .int .i64 t.xp, .int .i64 t.xs]) hn ?_ ?_ ?_ ?_ ?_ ?_); kernel_rfl; kernel_rfl; kernel_rfl; kernel_rfl; kernel_rfl)
  clear hn
  generalize ((w4.alloc (.cells #[.int .i64 0, .int .i64 0, .int .i64 0, .int .i64 0, .int .i64 0, .int .i64 0, .int .i64 0, .int .i64 0, .int .i64 0, .int .i64 0, .int .i64 0, .int .i64 0, .int .i64 0, .int .i64 0, .int .i64 0, .int .i64 0, .int .i64 0] 27)).setRow w4.heap.size #[.int .i64 t.rcd, .int .i64 t.rp, .int .i64 t.ras, .int .i64 t.rrds, .int .i64 t.rrdl, .int .i64 t.faw, .int .i64 t.ccds, .int .i64 t.ccdl, .int .i64 t.rtp, .int .i64 t.wr, .int .i64 t.wtrs, .int .i64 t.wtrl, .int .i64 t.rtw, .int .i64 t.rfc, .int .i64 t.cke, .int .i64 t.xp, .int .i64 t.xs]) = w5 at y5 z5 gv5 tv5 HC5 HO5 ⊢
  refine wp_region_float (A := ?A) [.h, .h, .h, .h, .h, .h, .t, .t, .t, .t, .e] (by kernel_rfl) (by kernel_rfl) (fun u => u.heap[w2.heap.size]? = some (.cells #[.int .i64 g0, .int .i64 Bk_, .int .i64 g2, .int .i64 g3] 25) ∧ u.heap[w4.heap.size]? = some (.cells #[.int .i64 t.rcd, .int .i64 t.rp, .int .i64 t.ras, .int .i64 t.rrds, .int .i64 t.rrdl, .int .i64 t.faw, .int .i64 t.ccds, .int .i64 t.ccdl, .int .i64 t.rtp, .int .i64 t.wr, .int .i64 t.wtrs, .int .i64 t.wtrl, .int .i64 t.rtw, .int .i64 t.rfc, .int .i64 t.cke, .int .i64 t.xp, .int .i64 t.xs] 27)) ?hC ?hH ?hT
  case hC => exact ⟨gv5, tv5⟩
  case hH =>
    intro u hu
    obtain ⟨c0, c1, c2, c3⟩ := cells4 hu.1
    have hu2 := hu.2
    have z0 := fun q : Same u => q.cell c0
    have z1 := fun q : Same u => q.cell c1
    have z2 := fun q : Same u => q.cell c2
    have z3 := fun q : Same u => q.cell c3
    simp only [headsOf]
    repeat (first | ((with_reducible refine ld_same ?_ ?_ hu2 ?_); kernel_rfl; kernel_rfl; go_simp) | go_big_quiet_step (fail))
    refine wpQuiet_nil ?_
    exact rfl
  case hT =>
    simp only [chainT]
    have y6 : w5.drew.heap[w.heap.size]? = some (.cells #[.int .i64 0, .int .i64 0, .int .i64 0, .int .i64 0] 25) := y5
    have z6 : w5.drew.heap[w.heap.size + 1]? = some (.cells #[.int .i64 0, .int .i64 0, .int .i64 0, .int .i64 0, .int .i64 0, .int .i64 0, .int .i64 0, .int .i64 0, .int .i64 0, .int .i64 0, .int .i64 0, .int .i64 0, .int .i64 0, .int .i64 0, .int .i64 0, .int .i64 0, .int .i64 0] 27) := z5
    have gv6 : w5.drew.heap[w2.heap.size]? = some (.cells #[.int .i64 g0, .int .i64 Bk_, .int .i64 g2, .int .i64 g3] 25) := gv5
    have tv6 : w5.drew.heap[w4.heap.size]? = some (.cells #[.int .i64 t.rcd, .int .i64 t.rp, .int .i64 t.ras, .int .i64 t.rrds, .int .i64 t.rrdl, .int .i64 t.faw, .int .i64 t.ccds, .int .i64 t.ccdl, .int .i64 t.rtp, .int .i64 t.wr, .int .i64 t.wtrs, .int .i64 t.wtrl, .int .i64 t.rtw, .int .i64 t.rfc, .int .i64 t.cke, .int .i64 t.xp, .int .i64 t.xs] 27) := tv5
    have HC6 : Hid (Cur c B w5.drew) := HC5.out
    have HO6 : Hid (Only c w w5.drew) := HO5.out.drew
    clear y5 z5 gv5 tv5 HC5 HO5
    generalize w5.drew = w6 at y6 z6 gv6 tv6 HC6 HO6 ⊢
    go_wp2_with fail
    refine (l01Below_any HC6.out 30 (by omega)).mono ?_
    rintro e w7 ⟨b, rfl, hl, hu, hc7, ho7⟩
    rw [topOf_pos (by omega)] at hu
    obtain ⟨X, rfl⟩ := Int.eq_ofNat_of_zero_le hl
    have hq := HQ.out
    have y7 := (ho7.block _ (lt_of_block y6) (by omega)).trans y6
    have z7 := (ho7.block _ (lt_of_block z6) (by omega)).trans z6
    have gv7 := (ho7.block _ (lt_of_block gv6) (by omega)).trans gv6
    have tv7 := (ho7.block _ (lt_of_block tv6) (by omega)).trans tv6
    have HO7 := Lib.hid (HO6.out.trans ho7)
    have HC7 := Lib.hid hc7
    have HX : Hid (X ≤ 29) := by show _ ≤ _; omega
    clear hc7 ho7 y6 z6 gv6 tv6 HC6 HO6 hl hu hq
    go_wp2_with fail
    refine stepQ_normal ⟨⟨gv7, tv7⟩, ?_⟩
    have hg : GeoOk g0 Bk_ g2 g3 := by have h := HOK.out; unfold GeoOk; omega
    obtain ⟨N, hN⟩ : ∃ N : Nat, bankN g0 Bk_ g2 g3 = (N : Int) := ⟨(bankN g0 Bk_ g2 g3).toNat, by have := bankN_range g0 Bk_ g2 g3; omega⟩
    have HTR := Lib.hid (l09Trace_any HC7.out t HTO.out g0 Bk_ g2 g3 hg N hN X HX.out)
    have HNN := Lib.hid hN
    clear hN hg
    go_wp2_with fail
    refine HTR.out.mono ?_
    rintro e w8 ⟨va, vc, L, rfl, hown, hdr, hc8, ho8⟩
    have hq := HQ.out
    have y8 := (ho8.block _ (lt_of_block y7) (by omega)).trans y7
    have z8 := (ho8.block _ (lt_of_block z7) (by omega)).trans z7
    have gv8 := (ho8.block _ (lt_of_block gv7) (by omega)).trans gv7
    have tv8 := (ho8.block _ (lt_of_block tv7) (by omega)).trans tv7
    have HO8 := Lib.hid (HO7.out.trans ho8)
    have HC8 := Lib.hid hc8
    have HD8 : Hid (Drawn g0 Bk_ g2 g3 t N 29 L) := ⟨hdr.ok, by have := hdr.few; have := HX.out; omega, fun e he => by have := hdr.low e he; have := HX.out; omega⟩
    have HOWN := Lib.hid hown
    have HLO : Hid (w4.heap.size < w7.heap.size) := lt_of_block tv7
    clear hc8 ho8 y7 z7 gv7 tv7 HC7 HO7 hdr hown HTR hq
    go_wp2_with fail
    refine stepQ_normal ⟨⟨gv8, tv8⟩, ?_⟩
    have OWN8 := HOWN
    clear HOWN
    go_wp2_with ((with_reducible refine store_list (cells := #[.int .i64 g0, .int .i64 Bk_, .int .i64 g2, .int .i64 g3]) y8 ?_ ?_ ?_ ?_ ?_ ?_); kernel_rfl; kernel_rfl; kernel_rfl; kernel_rfl; kernel_rfl)
    have hcc := HC8.out.lt
    have y9 := setRow_same _ _ #[.int .i64 g0, .int .i64 Bk_, .int .i64 g2, .int .i64 g3] _ _ y8
    have z9 := (setRow_other w8 (w.heap.size) _ #[.int .i64 g0, .int .i64 Bk_, .int .i64 g2, .int .i64 g3] (by omega)).trans z8
    have gv9 := (setRow_other w8 (w.heap.size) _ #[.int .i64 g0, .int .i64 Bk_, .int .i64 g2, .int .i64 g3] (by have := HQ.out; omega)).trans gv8
    have tv9 := (setRow_other w8 (w.heap.size) _ #[.int .i64 g0, .int .i64 Bk_, .int .i64 g2, .int .i64 g3] (by have := HQ.out; omega)).trans tv8
    have HC9 : Hid (Cur c B (w8.setRow (w.heap.size) #[.int .i64 g0, .int .i64 Bk_, .int .i64 g2, .int .i64 g3])) := HC8.out.keep (setRow_other _ _ _ _ (by omega)) (below_setRow (Below.refl _ _) (by omega) _)
    have HO9 : Hid (Only c w (w8.setRow (w.heap.size) #[.int .i64 g0, .int .i64 Bk_, .int .i64 g2, .int .i64 g3])) := HO8.out.trans' ⟨rfl, rfl, rfl, by simp⟩ (fun k hk hne => setRow_other _ _ _ _ (by omega))
    have OWN9 : Hid (evK.Own 41 w7.heap.size (.slice va L.length vc) L (w8.setRow (w.heap.size) #[.int .i64 g0, .int .i64 Bk_, .int .i64 g2, .int .i64 g3])) := OWN8.out.frame (fun x hx => setRow_other _ _ _ _ (by have := (OWN8.out.lo x hx).1; have := HLO.out; have := HQ.out; omega))
    clear y8 z8 gv8 tv8 HC8 HO8 OWN8 hcc
    generalize w8.setRow (w.heap.size) #[.int .i64 g0, .int .i64 Bk_, .int .i64 g2, .int .i64 g3] = w9 at y9 z9 gv9 tv9 HC9 HO9 OWN9 ⊢
    refine stepQ_normal ⟨⟨gv9, tv9⟩, ?_⟩
    go_wp2_with ((with_reducible refine store_list (cells := #[.int .i64 t.rcd, .int .i64 t.rp, .int .i64 t.ras, .int .i64 t.rrds, .int .i64 t.rrdl, .int .i64 t.faw, .int .i64 t.ccds, .int .i64 t.ccdl, .int .i64 t.rtp, .int .i64 t.wr, .int .i64 t.wtrs, .int .i64 t.wtrl, .int .i64 t.rtw, .int .i64 t.rfc, .int .i64 t.cke, .int .i64 t.xp, .int .i64 t.xs]) z9 ?_ ?_ ?_ ?_ ?_ ?_); kernel_rfl; kernel_rfl; kernel_rfl; kernel_rfl; kernel_rfl)
    have hcc := HC9.out.lt
    have z10 := setRow_same _ _ #[.int .i64 t.rcd, .int .i64 t.rp, .int .i64 t.ras, .int .i64 t.rrds, .int .i64 t.rrdl, .int .i64 t.faw, .int .i64 t.ccds, .int .i64 t.ccdl, .int .i64 t.rtp, .int .i64 t.wr, .int .i64 t.wtrs, .int .i64 t.wtrl, .int .i64 t.rtw, .int .i64 t.rfc, .int .i64 t.cke, .int .i64 t.xp, .int .i64 t.xs] _ _ z9
    have y10 := (setRow_other w9 (w.heap.size + 1) _ #[.int .i64 t.rcd, .int .i64 t.rp, .int .i64 t.ras, .int .i64 t.rrds, .int .i64 t.rrdl, .int .i64 t.faw, .int .i64 t.ccds, .int .i64 t.ccdl, .int .i64 t.rtp, .int .i64 t.wr, .int .i64 t.wtrs, .int .i64 t.wtrl, .int .i64 t.rtw, .int .i64 t.rfc, .int .i64 t.cke, .int .i64 t.xp, .int .i64 t.xs] (by omega)).trans y9
    have gv10 := (setRow_other w9 (w.heap.size + 1) _ #[.int .i64 t.rcd, .int .i64 t.rp, .int .i64 t.ras, .int .i64 t.rrds, .int .i64 t.rrdl, .int .i64 t.faw, .int .i64 t.ccds, .int .i64 t.ccdl, .int .i64 t.rtp, .int .i64 t.wr, .int .i64 t.wtrs, .int .i64 t.wtrl, .int .i64 t.rtw, .int .i64 t.rfc, .int .i64 t.cke, .int .i64 t.xp, .int .i64 t.xs] (by have := HQ.out; omega)).trans gv9
    have tv10 := (setRow_other w9 (w.heap.size + 1) _ #[.int .i64 t.rcd, .int .i64 t.rp, .int .i64 t.ras, .int .i64 t.rrds, .int .i64 t.rrdl, .int .i64 t.faw, .int .i64 t.ccds, .int .i64 t.ccdl, .int .i64 t.rtp, .int .i64 t.wr, .int .i64 t.wtrs, .int .i64 t.wtrl, .int .i64 t.rtw, .int .i64 t.rfc, .int .i64 t.cke, .int .i64 t.xp, .int .i64 t.xs] (by have := HQ.out; omega)).trans tv9
    have HC10 : Hid (Cur c B (w9.setRow (w.heap.size + 1) #[.int .i64 t.rcd, .int .i64 t.rp, .int .i64 t.ras, .int .i64 t.rrds, .int .i64 t.rrdl, .int .i64 t.faw, .int .i64 t.ccds, .int .i64 t.ccdl, .int .i64 t.rtp, .int .i64 t.wr, .int .i64 t.wtrs, .int .i64 t.wtrl, .int .i64 t.rtw, .int .i64 t.rfc, .int .i64 t.cke, .int .i64 t.xp, .int .i64 t.xs])) := HC9.out.keep (setRow_other _ _ _ _ (by omega)) (below_setRow (Below.refl _ _) (by omega) _)
    have HO10 : Hid (Only c w (w9.setRow (w.heap.size + 1) #[.int .i64 t.rcd, .int .i64 t.rp, .int .i64 t.ras, .int .i64 t.rrds, .int .i64 t.rrdl, .int .i64 t.faw, .int .i64 t.ccds, .int .i64 t.ccdl, .int .i64 t.rtp, .int .i64 t.wr, .int .i64 t.wtrs, .int .i64 t.wtrl, .int .i64 t.rtw, .int .i64 t.rfc, .int .i64 t.cke, .int .i64 t.xp, .int .i64 t.xs])) := HO9.out.trans' ⟨rfl, rfl, rfl, by simp⟩ (fun k hk hne => setRow_other _ _ _ _ (by omega))
    have OWN10 : Hid (evK.Own 41 w7.heap.size (.slice va L.length vc) L (w9.setRow (w.heap.size + 1) #[.int .i64 t.rcd, .int .i64 t.rp, .int .i64 t.ras, .int .i64 t.rrds, .int .i64 t.rrdl, .int .i64 t.faw, .int .i64 t.ccds, .int .i64 t.ccdl, .int .i64 t.rtp, .int .i64 t.wr, .int .i64 t.wtrs, .int .i64 t.wtrl, .int .i64 t.rtw, .int .i64 t.rfc, .int .i64 t.cke, .int .i64 t.xp, .int .i64 t.xs])) := OWN9.out.frame (fun x hx => setRow_other _ _ _ _ (by have := (OWN9.out.lo x hx).1; have := HLO.out; have := HQ.out; omega))
    clear z9 y9 gv9 tv9 HC9 HO9 OWN9 hcc
    generalize w9.setRow (w.heap.size + 1) #[.int .i64 t.rcd, .int .i64 t.rp, .int .i64 t.ras, .int .i64 t.rrds, .int .i64 t.rrdl, .int .i64 t.faw, .int .i64 t.ccds, .int .i64 t.ccdl, .int .i64 t.rtp, .int .i64 t.wr, .int .i64 t.wtrs, .int .i64 t.wtrl, .int .i64 t.rtw, .int .i64 t.rfc, .int .i64 t.cke, .int .i64 t.xp, .int .i64 t.xs] = w10 at z10 y10 gv10 tv10 HC10 HO10 OWN10 ⊢
    refine stepQ_normal ⟨⟨gv10, tv10⟩, ?_⟩
    go_wp2_with fail
    refine stepQ_normal ⟨trivial, ?_⟩
    obtain ⟨c0, c1, c2, c3⟩ := cells4 y10
    obtain ⟨d0, d1, d2, d3, d4, d5, d6, d7, d8, d9, d10, d11, d12, d13, d14, d15, d16⟩ := tm_cells z10
    have hfin : Hid (DrewCase c B w (.returned (.tuple #[.agg #[.int .i64 g0, .int .i64 Bk_, .int .i64 g2, .int .i64 g3], .agg #[.int .i64 t.rcd, .int .i64 t.rp, .int .i64 t.ras, .int .i64 t.rrds, .int .i64 t.rrdl, .int .i64 t.faw, .int .i64 t.ccds, .int .i64 t.ccdl, .int .i64 t.rtp, .int .i64 t.wr, .int .i64 t.wtrs, .int .i64 t.wtrl, .int .i64 t.rtw, .int .i64 t.rfc, .int .i64 t.cke, .int .i64 t.xp, .int .i64 t.xs], .slice va L.length vc])) w10) := ⟨g0, Bk_, g2, g3, t, N, va, vc, L, rfl, HOK.out, HTO.out, HNN.out, HD8.out, OWN10.out.mono (by have := HLO.out; have := HQ.out; omega), HC10.out, HO10.out⟩
    go_wp2_with fail
    (try simp only [Exit.inBlock, Exit.then])
    refine bodyPost_ret (v := .tuple #[.agg #[.int .i64 g0, .int .i64 Bk_, .int .i64 g2, .int .i64 g3], .agg #[.int .i64 t.rcd, .int .i64 t.rp, .int .i64 t.ras, .int .i64 t.rrds, .int .i64 t.rrdl, .int .i64 t.faw, .int .i64 t.ccds, .int .i64 t.ccdl, .int .i64 t.rtp, .int .i64 t.wr, .int .i64 t.wtrs, .int .i64 t.wtrl, .int .i64 t.rtw, .int .i64 t.rfc, .int .i64 t.cke, .int .i64 t.xp, .int .i64 t.xs], .slice va L.length vc]) ?_ rfl hfin.out
    simp [results, Try.results39, go_sem, c0, c1, c2, c3, d0, d1, d2, d3, d4, d5, d6, d7, d8, d9, d10, d11, d12, d13, d14, d15, d16]

/-- What a drawn geometry, timing and trace leave. -/
def DrewTrace (w : World) (e : Ending) (w' : World) : Prop :=
  ∃ (g0 Bk_ g2 g3 : Int) (t : Tm) (N : Nat) (a : Option Addr) (cap : Nat) (L : List Ev), e = .returned (.tuple #[.agg #[.int .i64 g0, .int .i64 Bk_, .int .i64 g2, .int .i64 g3], .agg #[.int .i64 t.rcd, .int .i64 t.rp, .int .i64 t.ras, .int .i64 t.rrds, .int .i64 t.rrdl, .int .i64 t.faw, .int .i64 t.ccds, .int .i64 t.ccdl, .int .i64 t.rtp, .int .i64 t.wr, .int .i64 t.wtrs, .int .i64 t.wtrl, .int .i64 t.rtw, .int .i64 t.rfc, .int .i64 t.cke, .int .i64 t.xp, .int .i64 t.xs], .slice a L.length cap]) ∧ ((1 ≤ g0 ∧ g0 ≤ 2) ∧ (1 ≤ Bk_ ∧ Bk_ ≤ 4) ∧ (2 ≤ g2 ∧ g2 ≤ 8) ∧ (1 ≤ g3 ∧ g3 ≤ 4)) ∧ TimOk t ∧ bankN g0 Bk_ g2 g3 = (N : Int) ∧ Drawn g0 Bk_ g2 g3 t N 29 L ∧ evK.Own 41 w.heap.size (.slice a L.length cap) L w' ∧ Below w.heap.size w w'

set_option maxHeartbeats 16000000 in
set_option maxRecDepth 100000 in
theorem drawTrace_any {a : Option Addr} {len cap : Nat} {zs : List Int} {w : World} (hr : IsRow .u8 w a len cap zs) : Calls Try.prog 11 #[.slice a len cap] w (DrewTrace w) := by
  obtain ⟨w1, hw1⟩ : ∃ u, (w.alloc (.cells #[.int .i64 0, .int .i64 0, .int .i64 0, .int .i64 0] 25)).alloc (.cells #[.int .i64 0, .int .i64 0, .int .i64 0, .int .i64 0, .int .i64 0, .int .i64 0, .int .i64 0, .int .i64 0, .int .i64 0, .int .i64 0, .int .i64 0, .int .i64 0, .int .i64 0, .int .i64 0, .int .i64 0, .int .i64 0, .int .i64 0] 27) = u := ⟨_, rfl⟩
  have y1 : w1.heap[w.heap.size]? = some (.cells #[.int .i64 0, .int .i64 0, .int .i64 0, .int .i64 0] 25) := by subst hw1; exact heap_alloc2_old _ _ _
  have z1 : w1.heap[w.heap.size + 1]? = some (.cells #[.int .i64 0, .int .i64 0, .int .i64 0, .int .i64 0, .int .i64 0, .int .i64 0, .int .i64 0, .int .i64 0, .int .i64 0, .int .i64 0, .int .i64 0, .int .i64 0, .int .i64 0, .int .i64 0, .int .i64 0, .int .i64 0, .int .i64 0] 27) := by subst hw1; exact heap_alloc2_new _ _ _
  have HB1 : Hid (Below w.heap.size w w1) := by subst hw1; exact ((Below.refl _ _).alloc (Nat.le_refl _) _).alloc (by simp) _
  have HR : Hid (IsRow .u8 w1 a len cap zs) := by subst hw1; exact (hr.alloc _).alloc _
  have HS1 : Hid (w.heap.size + 1 < w1.heap.size) := lt_of_block z1
  clear hr
  go_enter Try.func11, Try.ntmps11
  go_wp2_with fail
  refine (l01New_any HR.out).mono ?_
  rintro e w2 ⟨c, rfl, hB, hc2, hb2⟩
  have y2 := keep_block hb2 y1 (lt_of_block y1)
  have z2 := keep_block hb2 z1 (lt_of_block z1)
  have HB2 : Hid (Below w.heap.size w w2) := HB1.out.trans (hb2.mono HB1.out.size)
  have HS2 : Hid (w1.heap.size ≤ w2.heap.size) := hb2.size
  have HBC : Hid (w1.heap.size ≤ c) := hB
  clear hb2 y1 z1 HB1 HR hB
  go_wp2_with fail
  refine (l09Case_any hc2).mono ?_
  rintro e w3 ⟨g0, Bk_, g2, g3, t, N, va, vc, L, rfl, hok, hto, hN, hdr, hown, hc3, ho3⟩
  have hb3 : Below w1.heap.size w2 w3 := ho3.below HBC.out HS2.out
  have y3 := keep_block hb3 y2 (by have := HS1.out; omega)
  have z3 := keep_block hb3 z2 HS1.out
  have HB3 : Hid (Below w.heap.size w w3) := HB2.out.trans (hb3.mono (by have := HS1.out; omega))
  have OWN3 := Lib.hid hown
  have FACTS := Lib.hid (And.intro hok (And.intro hto (And.intro hN hdr)))
  have HS3 : Hid (w1.heap.size ≤ w2.heap.size) := HS2.out
  clear hb3 ho3 hc3 hc2 y2 z2 HB2 hown hok hto hN hdr
  have y4 := setRow_same _ _ #[.int .i64 g0, .int .i64 Bk_, .int .i64 g2, .int .i64 g3] _ _ y3
  have z4 := (setRow_other w3 w.heap.size (w.heap.size + 1) #[.int .i64 g0, .int .i64 Bk_, .int .i64 g2, .int .i64 g3] (by omega)).trans z3
  have z5 := setRow_same _ _ #[.int .i64 t.rcd, .int .i64 t.rp, .int .i64 t.ras, .int .i64 t.rrds, .int .i64 t.rrdl, .int .i64 t.faw, .int .i64 t.ccds, .int .i64 t.ccdl, .int .i64 t.rtp, .int .i64 t.wr, .int .i64 t.wtrs, .int .i64 t.wtrl, .int .i64 t.rtw, .int .i64 t.rfc, .int .i64 t.cke, .int .i64 t.xp, .int .i64 t.xs] _ _ z4
  have y5 := (setRow_other (w3.setRow w.heap.size #[.int .i64 g0, .int .i64 Bk_, .int .i64 g2, .int .i64 g3]) (w.heap.size + 1) w.heap.size #[.int .i64 t.rcd, .int .i64 t.rp, .int .i64 t.ras, .int .i64 t.rrds, .int .i64 t.rrdl, .int .i64 t.faw, .int .i64 t.ccds, .int .i64 t.ccdl, .int .i64 t.rtp, .int .i64 t.wr, .int .i64 t.wtrs, .int .i64 t.wtrl, .int .i64 t.rtw, .int .i64 t.rfc, .int .i64 t.cke, .int .i64 t.xp, .int .i64 t.xs] (by omega)).trans y4
  have HB5 : Hid (Below w.heap.size w ((w3.setRow w.heap.size #[.int .i64 g0, .int .i64 Bk_, .int .i64 g2, .int .i64 g3]).setRow (w.heap.size + 1) #[.int .i64 t.rcd, .int .i64 t.rp, .int .i64 t.ras, .int .i64 t.rrds, .int .i64 t.rrdl, .int .i64 t.faw, .int .i64 t.ccds, .int .i64 t.ccdl, .int .i64 t.rtp, .int .i64 t.wr, .int .i64 t.wtrs, .int .i64 t.wtrl, .int .i64 t.rtw, .int .i64 t.rfc, .int .i64 t.cke, .int .i64 t.xp, .int .i64 t.xs])) := below_setRow (below_setRow HB3.out (Nat.le_refl _) _) (by omega) _
  have OWN5 : Hid (evK.Own 41 w2.heap.size (.slice va L.length vc) L ((w3.setRow w.heap.size #[.int .i64 g0, .int .i64 Bk_, .int .i64 g2, .int .i64 g3]).setRow (w.heap.size + 1) #[.int .i64 t.rcd, .int .i64 t.rp, .int .i64 t.ras, .int .i64 t.rrds, .int .i64 t.rrdl, .int .i64 t.faw, .int .i64 t.ccds, .int .i64 t.ccdl, .int .i64 t.rtp, .int .i64 t.wr, .int .i64 t.wtrs, .int .i64 t.wtrl, .int .i64 t.rtw, .int .i64 t.rfc, .int .i64 t.cke, .int .i64 t.xp, .int .i64 t.xs])) := OWN3.out.frame (fun x hx => (setRow_other _ _ _ _ (by have := (OWN3.out.lo x hx).1; have := HS1.out; have := HS2.out; omega)).trans (setRow_other _ _ _ _ (by have := (OWN3.out.lo x hx).1; have := HS1.out; have := HS2.out; omega)))
  clear y4 HB3 OWN3
  go_wp2_with (first | ((with_reducible refine store_list (cells := #[.int .i64 g0, .int .i64 Bk_, .int .i64 g2, .int .i64 g3]) y3 ?_ ?_ ?_ ?_ ?_ ?_); kernel_rfl; kernel_rfl; kernel_rfl; kernel_rfl; kernel_rfl) | ((with_reducible refine store_list (cells := #[.int .i64 t.rcd, .int .i64 t.rp, .int .i64 t.ras, .int .i64 t.rrds, .int .i64 t.rrdl, .int .i64 t.faw, .int .i64 t.ccds, .int .i64 t.ccdl, .int .i64 t.rtp, .int .i64 t.wr, .int .i64 t.wtrs, .int .i64 t.wtrl, .int .i64 t.rtw, .int .i64 t.rfc, .int .i64 t.cke, .int .i64 t.xp, .int .i64 t.xs]) z4 ?_ ?_ ?_ ?_ ?_ ?_); kernel_rfl; kernel_rfl; kernel_rfl; kernel_rfl; kernel_rfl))
  clear y3 z3 z4
  generalize (w3.setRow w.heap.size #[.int .i64 g0, .int .i64 Bk_, .int .i64 g2, .int .i64 g3]).setRow (w.heap.size + 1) #[.int .i64 t.rcd, .int .i64 t.rp, .int .i64 t.ras, .int .i64 t.rrds, .int .i64 t.rrdl, .int .i64 t.faw, .int .i64 t.ccds, .int .i64 t.ccdl, .int .i64 t.rtp, .int .i64 t.wr, .int .i64 t.wtrs, .int .i64 t.wtrl, .int .i64 t.rtw, .int .i64 t.rfc, .int .i64 t.cke, .int .i64 t.xp, .int .i64 t.xs] = w5 at y5 z5 HB5 OWN5 ⊢
  obtain ⟨c0, c1, c2, c3⟩ := cells4 y5
  obtain ⟨d0, d1, d2, d3, d4, d5, d6, d7, d8, d9, d10, d11, d12, d13, d14, d15, d16⟩ := tm_cells z5
  have hfin : Hid (DrewTrace w (.returned (.tuple #[.agg #[.int .i64 g0, .int .i64 Bk_, .int .i64 g2, .int .i64 g3], .agg #[.int .i64 t.rcd, .int .i64 t.rp, .int .i64 t.ras, .int .i64 t.rrds, .int .i64 t.rrdl, .int .i64 t.faw, .int .i64 t.ccds, .int .i64 t.ccdl, .int .i64 t.rtp, .int .i64 t.wr, .int .i64 t.wtrs, .int .i64 t.wtrl, .int .i64 t.rtw, .int .i64 t.rfc, .int .i64 t.cke, .int .i64 t.xp, .int .i64 t.xs], .slice va L.length vc])) w5) := ⟨g0, Bk_, g2, g3, t, N, va, vc, L, rfl, FACTS.out.1, FACTS.out.2.1, FACTS.out.2.2.1, FACTS.out.2.2.2, OWN5.out.mono (by have := HS1.out; have := HS2.out; omega), HB5.out⟩
  (try simp only [Exit.inBlock, Exit.then])
  refine bodyPost_ret (v := .tuple #[.agg #[.int .i64 g0, .int .i64 Bk_, .int .i64 g2, .int .i64 g3], .agg #[.int .i64 t.rcd, .int .i64 t.rp, .int .i64 t.ras, .int .i64 t.rrds, .int .i64 t.rrdl, .int .i64 t.faw, .int .i64 t.ccds, .int .i64 t.ccdl, .int .i64 t.rtp, .int .i64 t.wr, .int .i64 t.wtrs, .int .i64 t.wtrl, .int .i64 t.rtw, .int .i64 t.rfc, .int .i64 t.cke, .int .i64 t.xp, .int .i64 t.xs], .slice va L.length vc]) ?_ rfl hfin.out
  simp [results, Try.results11, go_sem, c0, c1, c2, c3, d0, d1, d2, d3, d4, d5, d6, d7, d8, d9, d10, d11, d12, d13, d14, d15, d16]

end Go.Proofs.Ythplhjdfajhmpaa
