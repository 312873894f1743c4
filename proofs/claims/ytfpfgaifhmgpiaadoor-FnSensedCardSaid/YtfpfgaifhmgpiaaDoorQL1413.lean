/-
  Texts of one proof, merged: BnkM, BnkN, TrcM.
-/
import Derived.Test.YtfpfgaifhmgpiaaDoorQL142
import Derived.Test.YtfpfgaifhmgpiaaDoorQL146
import Derived.Test.YtfpfgaifhmgpiaaDoorQL148
import Derived.Test.YtfpfgaifhmgpiaaDoorQL1412
namespace Go.Proofs.YtfpfgaifhmgpiaaDoor

set_option linter.unusedVariables false

/-- A bank's state. -/
structure Bk where
  op : Bool
  row : Int

def Bk.vs (b : Bk) : List Value := [.bool b.op, .int .i64 b.row]

/-- A closed bank. -/
def bk0 : Bk := ⟨false, 0⟩

/-- A bank's state that is valid under a number of rows and a power. -/
def BkOk (rows pw : Int) (b : Bk) : Prop := (0 ≤ b.row ∧ b.row ≤ rows - 1) ∧ (b.op = true ∨ b.row = 0) ∧ (b.op = false ∨ pw ≠ 2)

instance (rows pw : Int) (b : Bk) : Decidable (BkOk rows pw b) := inferInstanceAs (Decidable (_ ∧ _))

/-- A valid state of a rank. -/
def RkOk (g0 B g2 g3 : Int) (l : List Bk) (pw : Int) : Prop := GeoOk g0 B g2 g3 ∧ (l.length : Int) = bankN g0 B g2 g3 ∧ (0 ≤ pw ∧ pw ≤ 2) ∧ ∀ b ∈ l, BkOk g2 pw b

instance (g0 B g2 g3 : Int) (l : List Bk) (pw : Int) : Decidable (RkOk g0 B g2 g3 l pw) := inferInstanceAs (Decidable (_ ∧ _))

/-- Is a valid command allowed in a valid state? -/
def mayR (l : List Bk) (pw k x : Int) : Bool :=
  if k = 1 ∨ k = 5 then decide (pw = 0) && !(l.getD x.toNat bk0).op
  else if k = 2 ∨ k = 3 ∨ k = 4 then decide (pw = 0) && (l.getD x.toNat bk0).op
  else if k = 6 then decide (pw = 0)
  else if k = 8 then decide (pw = 0) && l.all (fun b => !b.op)
  else if k = 7 then decide (pw = 1)
  else decide (pw = 2)

/-- Is a command allowed in a state? -/
def allowR (g0 B g2 g3 : Int) (l : List Bk) (pw k x y z : Int) : Bool :=
  decide (RkOk g0 B g2 g3 l pw ∧ CmOk k x y z ∧ AdOk g0 B g2 g3 x y z) && mayR l pw k x

/-- The banks and the power behind a command that is allowed. -/
def doL (l : List Bk) (k x y : Int) : List Bk := if k = 1 then l.set x.toNat ⟨true, y⟩ else if k = 4 then l.set x.toNat bk0 else l

def doP (pw k : Int) : Int := if k = 6 then 1 else if k = 8 then 2 else if k = 7 ∨ k = 9 then 0 else pw

theorem doL_length (l : List Bk) (k x y : Int) : (doL l k x y).length = l.length := by
  unfold doL
  split
  · simp
  · split <;> simp

end Go.Proofs.YtfpfgaifhmgpiaaDoor

namespace Go.Proofs.YtfpfgaifhmgpiaaDoor

set_option linter.unusedVariables false

theorem allow_parts {g0 B g2 g3 : Int} {l : List Bk} {pw k x y z : Int} (h : allowR g0 B g2 g3 l pw k x y z = true) : RkOk g0 B g2 g3 l pw ∧ CmOk k x y z ∧ AdOk g0 B g2 g3 x y z ∧ mayR l pw k x = true := by
  unfold allowR at h
  rw [Bool.and_eq_true, decide_eq_true_eq] at h
  exact ⟨h.1.1, h.1.2.1, h.1.2.2, h.2⟩

theorem may_kind' {k : Int} (h : 1 ≤ k ∧ k ≤ 9) : k = 1 ∨ k = 2 ∨ k = 3 ∨ k = 4 ∨ k = 5 ∨ k = 6 ∨ k = 7 ∨ k = 8 ∨ k = 9 := by omega

theorem do_ok {g0 B g2 g3 : Int} {l : List Bk} {pw k x y z : Int} (h : allowR g0 B g2 g3 l pw k x y z = true) : RkOk g0 B g2 g3 (doL l k x y) (doP pw k) := by
  obtain ⟨⟨hg, hn, hp, hall⟩, hc, ha, hm⟩ := allow_parts h
  refine ⟨hg, by rw [doL_length]; exact hn, ?_, ?_⟩
  · unfold doP
    split
    · omega
    · split
      · omega
      · split <;> omega
  · have hk := may_kind' hc.1
    have hrow := ha.2.1
    have hg2 := hg.2.2.1
    clear h hc ha
    rcases hk with rfl | rfl | rfl | rfl | rfl | rfl | rfl | rfl | rfl
    · have hp0 : pw = 0 := by
        have : (decide (pw = 0) && !(l.getD x.toNat bk0).op) = true := hm
        rw [Bool.and_eq_true, decide_eq_true_eq] at this
        exact this.1
      intro b hb
      have hb' : b ∈ l.set x.toNat ⟨true, y⟩ := hb
      show BkOk g2 pw b
      rcases List.mem_or_eq_of_mem_set hb' with hb | rfl
      · exact hall b hb
      · exact ⟨hrow, .inl rfl, .inr (by omega)⟩
    · exact fun b hb => hall b hb
    · exact fun b hb => hall b hb
    · intro b hb
      have hb' : b ∈ l.set x.toNat bk0 := hb
      show BkOk g2 pw b
      rcases List.mem_or_eq_of_mem_set hb' with hb | rfl
      · exact hall b hb
      · exact ⟨⟨by show (0 : Int) ≤ 0; omega, by show (0 : Int) ≤ g2 - 1; omega⟩, .inr rfl, .inl rfl⟩
    · exact fun b hb => hall b hb
    · exact fun b hb => ⟨(hall b hb).1, (hall b hb).2.1, .inr (show (1 : Int) ≠ 2 by decide)⟩
    · exact fun b hb => ⟨(hall b hb).1, (hall b hb).2.1, .inr (show (0 : Int) ≠ 2 by decide)⟩
    · intro b hb
      have hm' : (decide (pw = 0) && l.all (fun b => !b.op)) = true := hm
      rw [Bool.and_eq_true, List.all_eq_true] at hm'
      refine ⟨(hall b hb).1, (hall b hb).2.1, .inl ?_⟩
      have := hm'.2 b hb
      simpa using this
    · exact fun b hb => ⟨(hall b hb).1, (hall b hb).2.1, .inr (show (0 : Int) ≠ 2 by decide)⟩

/-- A new rank is valid. -/
theorem new_ok {g0 B g2 g3 : Int} {n : Nat} (hg : GeoOk g0 B g2 g3) (hn : bankN g0 B g2 g3 = (n : Int)) : RkOk g0 B g2 g3 (List.replicate n bk0) 0 := by
  refine ⟨hg, by rw [List.length_replicate, hn], by omega, fun b hb => ?_⟩
  obtain ⟨_, rfl⟩ := List.mem_replicate.1 hb
  have := hg.2.2.1
  exact ⟨⟨by show (0 : Int) ≤ 0; omega, by show (0 : Int) ≤ g2 - 1; omega⟩, .inr rfl, .inl rfl⟩

end Go.Proofs.YtfpfgaifhmgpiaaDoor

namespace Go.Proofs.YtfpfgaifhmgpiaaDoor

set_option linter.unusedVariables false

/-- An event: when, and which command. -/
structure Ev where
  t : Int
  k : Int
  x : Int
  y : Int
  z : Int

def Ev.vs (e : Ev) : List Value := [.int .i64 e.t, .int .i64 e.k, .int .i64 e.x, .int .i64 e.y, .int .i64 e.z]

def ev0 : Ev := ⟨0, 0, 0, 0, 0⟩

/-- The banks and the power behind events. -/
def stL (n : Nat) (L : List Ev) : List Bk := L.foldl (fun l e => doL l e.k e.x e.y) (List.replicate n bk0)

def stP (L : List Ev) : Int := L.foldl (fun p e => doP p e.k) 0

/-- When rows were activated. -/
def actsT (L : List Ev) : List Int := (L.filter (fun e => decide (e.k = 1))).map Ev.t

theorem stL_snoc (n : Nat) (P : List Ev) (e : Ev) : stL n (P ++ [e]) = doL (stL n P) e.k e.x e.y := by simp [stL]

theorem stP_snoc (P : List Ev) (e : Ev) : stP (P ++ [e]) = doP (stP P) e.k := by simp [stP]

theorem actsT_snoc (P : List Ev) (e : Ev) : actsT (P ++ [e]) = if e.k = 1 then actsT P ++ [e.t] else actsT P := by
  unfold actsT
  rw [List.filter_append, List.map_append]
  by_cases h : e.k = 1
  · simp [h]
  · simp [h]

theorem actsT_length (L : List Ev) : (actsT L).length ≤ L.length := by
  unfold actsT
  rw [List.length_map]
  exact List.length_filter_le _ _

theorem take_snoc {L : List Ev} {i : Nat} (hi : i < L.length) : L.take (i + 1) = L.take i ++ [L.getD i ev0] := by
  rw [List.take_add_one, List.getD_eq_getElem?_getD, List.getElem?_eq_getElem hi]
  rfl

/-- Does an event come too early behind one of these? -/
def closeE (B : Int) (t : Tm) (L : List Ev) (e : Ev) : Bool := L.any (fun d => decide (e.t - d.t < gapR B t d.k d.x e.k e.x))

def CmdIn (g0 B g2 g3 : Int) (e : Ev) : Prop := CmOk e.k e.x e.y e.z ∧ AdOk g0 B g2 g3 e.x e.y e.z

instance (g0 B g2 g3 : Int) (e : Ev) : Decidable (CmdIn g0 B g2 g3 e) := inferInstanceAs (Decidable (_ ∧ _))

/-- Later than the last of these? -/
def Past (P : List Ev) (e : Ev) : Prop := P = [] ∨ (P.getLastD ev0).t < e.t

instance (P : List Ev) (e : Ev) : Decidable (Past P e) := by
  unfold Past
  cases P with
  | nil => exact .isTrue (.inl rfl)
  | cons a b => exact decidable_of_iff (((a :: b).getLastD ev0).t < e.t) ⟨.inr, fun h => h.elim (fun h => by cases h) id⟩

def FormE (g0 B g2 g3 : Int) (P : List Ev) (e : Ev) : Prop := CmdIn g0 B g2 g3 e ∧ (0 ≤ e.t ∧ e.t ≤ 1000000) ∧ Past P e

instance (g0 B g2 g3 : Int) (P : List Ev) (e : Ev) : Decidable (FormE g0 B g2 g3 P e) := inferInstanceAs (Decidable (_ ∧ _))

/-- Is this a fifth activation within FAW? -/
def FawE (faw : Int) (P : List Ev) (e : Ev) : Prop := e.k = 1 ∧ 4 ≤ (actsT P).length ∧ e.t - (actsT P).getD ((actsT P).length - 4) 0 < faw

instance (faw : Int) (P : List Ev) (e : Ev) : Decidable (FawE faw P e) := inferInstanceAs (Decidable (_ ∧ _))

/-- The fault of an event behind a trace without faults; 0 if there is none. -/
def evF (g0 B g2 g3 : Int) (t : Tm) (n : Nat) (P : List Ev) (e : Ev) : Int :=
  if ¬ FormE g0 B g2 g3 P e then 1
  else if mayR (stL n P) (stP P) e.k e.x = false then 2
  else if closeE B t P e = true then 3
  else if FawE t.faw P e then 4 else 0

theorem evF_zero {g0 B g2 g3 : Int} {t : Tm} {n : Nat} {P : List Ev} {e : Ev} : evF g0 B g2 g3 t n P e = 0 ↔ FormE g0 B g2 g3 P e ∧ mayR (stL n P) (stP P) e.k e.x = true ∧ closeE B t P e = false ∧ ¬ FawE t.faw P e := by
  unfold evF
  by_cases h1 : FormE g0 B g2 g3 P e
  · rw [if_neg (by simpa using h1)]
    by_cases h2 : mayR (stL n P) (stP P) e.k e.x = true
    · rw [if_neg (by rw [h2]; simp)]
      by_cases h3 : closeE B t P e = true
      · rw [if_pos h3]
        simp [h3]
      · rw [if_neg h3]
        by_cases h4 : FawE t.faw P e
        · rw [if_pos h4]; simp [h4]
        · rw [if_neg h4]; simp [h1, h2, h3, h4]
    · rw [if_pos (by simpa using h2)]
      simp [h2]
  · rw [if_pos h1]
    simp [h1]

/-- The first fault and its index, from these events on. -/
def fstF (f : List Ev → Ev → Int) : List Ev → List Ev → Int × Int
  | _, [] => (0, -1)
  | P, e :: Q => if f P e = 0 then fstF f (P ++ [e]) Q else (f P e, (P.length : Int))

theorem fstF_append {f : List Ev → Ev → Int} : ∀ {P Q R : List Ev}, (fstF f P Q).1 = 0 → fstF f P (Q ++ R) = fstF f (P ++ Q) R := by
  intro P Q R
  induction Q generalizing P with
  | nil => intro _; simp
  | cons e Q ih =>
    intro h
    unfold fstF at h
    by_cases h0 : f P e = 0
    · rw [if_pos h0] at h
      show fstF f P (e :: (Q ++ R)) = _
      have e1 : fstF f P (e :: (Q ++ R)) = fstF f (P ++ [e]) (Q ++ R) := by
        rw [fstF, if_pos h0]
      rw [e1, ih h]
      simp only [List.append_assoc, List.singleton_append]
    · rw [if_neg h0] at h
      exact absurd h h0

theorem fstF_pre {f : List Ev → Ev → Int} : ∀ {P Q R : List Ev}, (fstF f P (Q ++ R)).1 = 0 → (fstF f P Q).1 = 0 := by
  intro P Q R
  induction Q generalizing P with
  | nil => intro _; rfl
  | cons e Q ih =>
    intro h
    rw [List.cons_append] at h
    unfold fstF at h ⊢
    by_cases h0 : f P e = 0
    · rw [if_pos h0] at h ⊢
      exact ih h
    · rw [if_neg h0] at h
      exact absurd h h0

/-- A trace without faults. -/
def TrOk (g0 B g2 g3 : Int) (t : Tm) (n : Nat) (L : List Ev) : Prop := (fstF (evF g0 B g2 g3 t n) [] L).1 = 0

theorem TrOk.nil {g0 B g2 g3 : Int} {t : Tm} {n : Nat} : TrOk g0 B g2 g3 t n [] := rfl

theorem TrOk.snoc {g0 B g2 g3 : Int} {t : Tm} {n : Nat} {L : List Ev} {e : Ev} (h : TrOk g0 B g2 g3 t n L) : fstF (evF g0 B g2 g3 t n) [] (L ++ [e]) = if evF g0 B g2 g3 t n L e = 0 then (0, -1) else (evF g0 B g2 g3 t n L e, (L.length : Int)) := by
  rw [fstF_append h]
  rfl

theorem TrOk.more {g0 B g2 g3 : Int} {t : Tm} {n : Nat} {L : List Ev} {e : Ev} (h : TrOk g0 B g2 g3 t n L) (he : evF g0 B g2 g3 t n L e = 0) : TrOk g0 B g2 g3 t n (L ++ [e]) := by
  unfold TrOk
  rw [h.snoc, if_pos he]

theorem TrOk.take {g0 B g2 g3 : Int} {t : Tm} {n : Nat} {L : List Ev} (h : TrOk g0 B g2 g3 t n L) (i : Nat) : TrOk g0 B g2 g3 t n (L.take i) :=
  fstF_pre (R := L.drop i) (by rw [List.take_append_drop]; exact h)

theorem TrOk.back {g0 B g2 g3 : Int} {t : Tm} {n : Nat} {L : List Ev} {e : Ev} (h : TrOk g0 B g2 g3 t n (L ++ [e])) : TrOk g0 B g2 g3 t n L ∧ evF g0 B g2 g3 t n L e = 0 := by
  have h1 : TrOk g0 B g2 g3 t n L := fstF_pre h
  refine ⟨h1, ?_⟩
  unfold TrOk at h
  rw [h1.snoc] at h
  by_cases h0 : evF g0 B g2 g3 t n L e = 0
  · exact h0
  · rw [if_neg h0] at h; exact absurd h h0

/-- Are all commands allowed, each behind the ones ahead of it? -/
def endF (f : List Ev → Ev → Bool) : List Ev → List Ev → Bool
  | _, [] => true
  | P, e :: Q => f P e && endF f (P ++ [e]) Q

def endOk (g0 B g2 g3 : Int) (n : Nat) (L : List Ev) : Bool := endF (fun P e => allowR g0 B g2 g3 (stL n P) (stP P) e.k e.x e.y e.z) [] L

theorem endF_append {f : List Ev → Ev → Bool} : ∀ {P Q R : List Ev}, endF f P (Q ++ R) = (endF f P Q && endF f (P ++ Q) R) := by
  intro P Q R
  induction Q generalizing P with
  | nil => simp [endF]
  | cons e Q ih =>
    show (f P e && endF f (P ++ [e]) (Q ++ R)) = ((f P e && endF f (P ++ [e]) Q) && _)
    rw [ih, Bool.and_assoc]
    simp only [List.append_assoc, List.singleton_append]

theorem st_ok {g0 B g2 g3 : Int} {t : Tm} {n : Nat} (hg : GeoOk g0 B g2 g3) (hn : bankN g0 B g2 g3 = (n : Int)) : ∀ {L : List Ev}, TrOk g0 B g2 g3 t n L → RkOk g0 B g2 g3 (stL n L) (stP L) ∧ endOk g0 B g2 g3 n L = true := by
  intro L
  suffices h : ∀ m (L : List Ev), L.length = m → TrOk g0 B g2 g3 t n L → RkOk g0 B g2 g3 (stL n L) (stP L) ∧ endOk g0 B g2 g3 n L = true from h _ L rfl
  intro m
  induction m with
  | zero =>
    intro L hL _
    obtain rfl := List.length_eq_zero_iff.1 hL
    exact ⟨new_ok hg hn, rfl⟩
  | succ m ih =>
    intro L hL h
    obtain ⟨P, e, rfl⟩ : ∃ P e, L = P ++ [e] := ⟨L.dropLast, L.getLast (fun h0 => by rw [h0] at hL; cases hL), (List.dropLast_concat_getLast _).symm⟩
    obtain ⟨h1, h2⟩ := h.back
    obtain ⟨hr, he⟩ := ih P (by simpa using hL) h1
    obtain ⟨hf, hm, _, _⟩ := evF_zero.1 h2
    have ha : allowR g0 B g2 g3 (stL n P) (stP P) e.k e.x e.y e.z = true := by
      unfold allowR
      rw [hm, decide_eq_true ⟨hr, hf.1.1, hf.1.2⟩]
      rfl
    refine ⟨?_, ?_⟩
    · rw [stL_snoc, stP_snoc]
      exact do_ok ha
    · unfold endOk at he ⊢
      rw [endF_append, he]
      show (true && (allowR g0 B g2 g3 (stL n ([] ++ P)) (stP ([] ++ P)) e.k e.x e.y e.z && true)) = true
      rw [List.nil_append, ha]
      rfl

/-- The earliest time that the distances leave. -/
def gapT (B : Int) (t : Tm) (L : List Ev) (k x : Int) : Int := L.foldl (fun m e => max m (e.t + gapR B t e.k e.x k x)) 0

def nextT (B : Int) (t : Tm) (L : List Ev) (k x : Int) : Int :=
  if k = 1 ∧ 4 ≤ (actsT L).length then max (gapT B t L k x) ((actsT L).getD ((actsT L).length - 4) 0 + t.faw) else gapT B t L k x

theorem gapT_le {B : Int} {t : Tm} {L : List Ev} {k x : Int} : 0 ≤ gapT B t L k x ∧ ∀ e ∈ L, e.t + gapR B t e.k e.x k x ≤ gapT B t L k x := by
  suffices h : ∀ (L : List Ev) (m : Int), m ≤ L.foldl (fun m e => max m (e.t + gapR B t e.k e.x k x)) m ∧ ∀ e ∈ L, e.t + gapR B t e.k e.x k x ≤ L.foldl (fun m e => max m (e.t + gapR B t e.k e.x k x)) m from h L 0
  intro L
  induction L with
  | nil => intro m; exact ⟨Int.le_refl _, fun e he => by cases he⟩
  | cons d L ih =>
    intro m
    obtain ⟨h1, h2⟩ := ih (max m (d.t + gapR B t d.k d.x k x))
    refine ⟨Int.le_trans (Int.le_max_left _ _) h1, fun e he => ?_⟩
    rcases List.mem_cons.1 he with rfl | he
    · exact Int.le_trans (Int.le_max_right _ _) h1
    · exact h2 e he

theorem gapT_is {B : Int} {t : Tm} {L : List Ev} {k x : Int} : gapT B t L k x = 0 ∨ ∃ e ∈ L, gapT B t L k x = e.t + gapR B t e.k e.x k x := by
  suffices h : ∀ (L : List Ev) (m : Int), L.foldl (fun m e => max m (e.t + gapR B t e.k e.x k x)) m = m ∨ ∃ e ∈ L, L.foldl (fun m e => max m (e.t + gapR B t e.k e.x k x)) m = e.t + gapR B t e.k e.x k x from h L 0
  intro L
  induction L with
  | nil => intro m; exact .inl rfl
  | cons d L ih =>
    intro m
    rcases ih (max m (d.t + gapR B t d.k d.x k x)) with h | ⟨e, he, h⟩
    · rw [List.foldl_cons, h]
      by_cases hm : m ≤ d.t + gapR B t d.k d.x k x
      · exact .inr ⟨d, List.mem_cons_self, by omega⟩
      · exact .inl (by omega)
    · exact .inr ⟨e, List.mem_cons_of_mem _ he, h⟩

theorem TrOk.at {g0 B g2 g3 : Int} {t : Tm} {n : Nat} {L : List Ev} (h : TrOk g0 B g2 g3 t n L) {i : Nat} (hi : i < L.length) : evF g0 B g2 g3 t n (L.take i) (L.getD i ev0) = 0 := by
  have h2 := h.take (i + 1)
  rw [take_snoc hi] at h2
  exact h2.back.2

/-- An event whose bank is one, at a time that there is. -/
def EvIn (e : Ev) : Prop := (0 ≤ e.t ∧ e.t ≤ 1000000) ∧ 0 ≤ e.x ∧ e.x ≤ 7

theorem FormE.isIn {g0 B g2 g3 : Int} {P : List Ev} {e : Ev} (h : FormE g0 B g2 g3 P e) : EvIn e := ⟨h.2.1, h.1.1.2.1⟩

theorem TrOk.isIn {g0 B g2 g3 : Int} {t : Tm} {n : Nat} {L : List Ev} (h : TrOk g0 B g2 g3 t n L) {i : Nat} (hi : i < L.length) : EvIn (L.getD i ev0) := (evF_zero.1 (h.at hi)).1.isIn

theorem TrOk.next {g0 B g2 g3 : Int} {t : Tm} {n : Nat} {L : List Ev} {k : Nat} (h : TrOk g0 B g2 g3 t n (L.take k)) (hk : k < L.length) (hc : evF g0 B g2 g3 t n (L.take k) (L.getD k ev0) = 0) : TrOk g0 B g2 g3 t n (L.take (k + 1)) := by
  rw [take_snoc hk]
  exact h.more hc

theorem take_last {L : List Ev} {k : Nat} (h0 : 0 < k) (hk : k ≤ L.length) : (L.take k).getLastD ev0 = L.getD (k - 1) ev0 := by
  obtain ⟨m, rfl⟩ : ∃ m, k = m + 1 := ⟨k - 1, by omega⟩
  rw [take_snoc (by omega), List.getLastD_concat]
  rfl

theorem past_iff {L : List Ev} {k : Nat} {e : Ev} (h0 : 0 < k) (hk : k ≤ L.length) : Past (L.take k) e ↔ (L.getD (k - 1) ev0).t < e.t := by
  unfold Past
  rw [take_last h0 hk]
  constructor
  · rintro (h | h)
    · have : (L.take k).length = 0 := by rw [h]; rfl
      rw [List.length_take] at this
      omega
    · exact h
  · exact .inr

theorem TrOk.mem {g0 B g2 g3 : Int} {t : Tm} {n : Nat} {L : List Ev} (h : TrOk g0 B g2 g3 t n L) {e : Ev} (he : e ∈ L) : EvIn e := by
  obtain ⟨i, hi, rfl⟩ := List.getElem_of_mem he
  have := h.isIn hi
  rwa [List.getD_eq_getElem?_getD, List.getElem?_eq_getElem hi] at this

theorem TrOk.acts {g0 B g2 g3 : Int} {t : Tm} {n : Nat} {L : List Ev} (h : TrOk g0 B g2 g3 t n L) {j : Nat} (hj : j < (actsT L).length) : 0 ≤ (actsT L).getD j 0 ∧ (actsT L).getD j 0 ≤ 1000000 := by
  rw [List.getD_eq_getElem?_getD, List.getElem?_eq_getElem hj]
  have hm : (actsT L)[j] ∈ actsT L := List.getElem_mem hj
  unfold actsT at hm
  obtain ⟨e, he, hx⟩ := List.mem_map.1 hm
  have := (h.mem (List.mem_filter.1 he).1).1
  show 0 ≤ (actsT L)[j] ∧ (actsT L)[j] ≤ 1000000
  unfold actsT
  rw [← hx]
  exact this

end Go.Proofs.YtfpfgaifhmgpiaaDoor
