/-
  Texts of one proof, merged: RdyC, RdyJ, RdyI, RdyD, RdyO.
-/
import Derived.Test.YthplhjdfajhmpaaQR8
import Derived.Test.YthplhjdfajhmpaaQR13
import Derived.Test.YthplhjdfajhmpaaQR17
import Derived.Test.YthplhjdfajhmpaaQR20
import Derived.Maps.AppendAt
namespace Go.Proofs.Ythplhjdfajhmpaa
open Go.RowKit Go.PlainAid

set_option linter.unusedVariables false

theorem below_allocI {w : World} (o : Obj) : Below w.heap.size w (w.alloc o) := (Below.refl _ _).alloc (Nat.le_refl _) _

theorem RowI.src {w : World} {ad : Addr} {l : List Int} (h : RowI w (some ad) l) : ∀ j u, (l.map (Value.int .i64))[j]? = some u → w.cell? (ad.add j) = some u := by
  rcases h with rfl | ⟨b, off, hb, h⟩
  · intro j u hu; simp at hu
  · cases hb
    intro j u hu
    rw [List.getElem?_map] at hu
    cases hl : l[j]? with
    | none => rw [hl] at hu; cases hu
    | some z =>
      rw [hl] at hu
      cases hu
      have hj : j < l.length := by
        rcases Nat.lt_or_ge j l.length with h1 | h1
        · exact h1
        · rw [List.getElem?_eq_none h1] at hl; cases hl
      have h2 := h j hj
      rw [List.getD_eq_getElem?_getD, hl] at h2
      unfold Addr.add
      by_cases h0 : j = 0
      · subst h0
        rw [if_pos rfl]
        exact h2
      · rw [if_neg h0]
        exact h2

theorem ownI_same {B n c : Nat} {a : Option Addr} {l : List Int} {w w' : World} (h : OwnI B (.slice a n c) l w) (hk : ∀ x, a = some x → w'.heap[x.block]? = w.heap[x.block]?) : OwnI B (.slice a n c) l w' := by
  refine ⟨h.1, ?_⟩
  rcases h.2 with ⟨hv, h0⟩ | ⟨b, cap, cur, hv, hB, hh, r⟩
  · exact .inl ⟨hv, h0⟩
  · cases hv
    exact .inr ⟨b, c, cur, rfl, hB, (hk _ rfl).trans hh, r⟩

/-- Holds till operation L. -/
def TillW (L : Nat) (F : World → Prop) (listed : Array Bool) (u : World) : Prop := listed.getD L false = false → F u

theorem TillW.gone {L : Nat} {F : World → Prop} {listed : Array Bool} {u : World} (h : L < listed.size) : TillW L F (listed.setIfInBounds L true) u := fun h2 => by rw [get_set_same false h] at h2; cases h2

/-- Holds behind operation L. -/
def FromW (L : Nat) (F : World → Prop) (listed : Array Bool) (u : World) : Prop := listed.getD L false = true → F u

theorem FromW.zero (L : Nat) (F : World → Prop) (n : Nat) (u : World) : FromW L F (Array.replicate n false) u := fun h => by rw [getD_replicate_false] at h; cases h

theorem FromW.no {L i : Nat} {F : World → Prop} {listed : Array Bool} {u : World} (h : listed.getD L false = false) (hi : i ≠ L) : FromW L F (listed.setIfInBounds i true) u := fun h2 => by rw [getD_set_ne false hi, h] at h2; cases h2

/-- Operation L comes last. -/
def AllW (L : Nat) (listed : Array Bool) : Prop := ∀ j, j < L → Aft L j listed

theorem AllW.keep {L i : Nat} {listed : Array Bool} (h : AllW L listed) (hi : i ≠ L) : AllW L (listed.setIfInBounds i true) := fun j hj => (h j hj).keep hi

/-- The rows that operations i and j answered lie apart, till operation m. -/
def AptR (i j m n1 n2 : Nat) (listed : Array Bool) (x : Nat → Value) : Prop := listed.getD j false = true → listed.getD m false = false → ∃ aa ca ab cb, x i = .slice aa n1 ca ∧ x j = .slice ab n2 cb ∧ Apt aa ab

theorem AptR.zero (i j m n1 n2 n : Nat) (x : Nat → Value) : AptR i j m n1 n2 (Array.replicate n false) x := fun h => by rw [getD_replicate_false] at h; cases h

theorem AptR.keep {i j m n1 n2 : Nat} {listed : Array Bool} {x : Nat → Value} (h : AptR i j m n1 n2 listed x) {k : Nat} (hi : k ≠ i) (hj : k ≠ j) (hm : k ≠ m) (v : Value) : AptR i j m n1 n2 (listed.setIfInBounds k true) (upd x k v) := fun h1 h2 => by
  rw [getD_set_ne false hj] at h1
  rw [getD_set_ne false hm] at h2
  rw [upd_other _ _ (Ne.symm hi), upd_other _ _ (Ne.symm hj)]
  exact h h1 h2

theorem AptR.no {i j m n1 n2 : Nat} {listed : Array Bool} {x : Nat → Value} (h : listed.getD j false = false) {k : Nat} (hj : k ≠ j) (v : Value) : AptR i j m n1 n2 (listed.setIfInBounds k true) (upd x k v) := fun h1 _ => by
  rw [getD_set_ne false hj, h] at h1; cases h1

theorem AptR.new {i j m n1 n2 : Nat} {listed : Array Bool} {x : Nat → Value} {ab : Option Addr} {cb : Nat} (hij : i ≠ j) (h : ∃ aa ca, x i = .slice aa n1 ca ∧ Apt aa ab) : AptR i j m n1 n2 (listed.setIfInBounds j true) (upd x j (.slice ab n2 cb)) := fun _ _ => by
  obtain ⟨aa, ca, e1, e2⟩ := h
  exact ⟨aa, ca, ab, cb, by rw [upd_other _ _ hij]; exact e1, upd_same _ _ _, e2⟩

theorem AptR.call {i j m n1 n2 : Nat} {listed : Array Bool} {x : Nat → Value} (h : m < listed.size) : AptR i j m n1 n2 (listed.setIfInBounds m true) x := fun _ h2 => by rw [get_set_same false h] at h2; cases h2

/-- Numbers appended to a row of the call's own; where the new row lies. -/
theorem append_int {ops : Array Oper} {rest : List Oper} {o : Oper} {a : Act} {w : World} {Q : Exit → Act → World → Prop} (hgd : o.guard = none) (s x : Operand) (ho : o.op = .call { callee := .builtin .append, args := #[s, x], argTypes := #[31, 31] })
    (base : Nat) (v : Value) (n : Nat) (xs : List Int) (hs : a.eval s = v) (hown : OwnI base v xs w) (hxn : xs.length = n) (ad : Option Addr) (m c : Nat) (news : List Int) (hx : a.eval x = .slice ad m c) (hl : news.length = m) (hnc : ad = none → c = 0) (hrow : RowI w ad news) (hbig : n + m ≤ 3500000) (hbase : base ≤ w.heap.size)
    (h : ∀ v' w', OwnI base v' (xs ++ news) w' → w.grownBy w' v.ownBlock → (v'.ownBlock = v.ownBlock ∨ v'.ownBlock = some w.heap.size) → wpList Try.prog ops Q rest (a.put o.dst v') w') : wpList Try.prog ops Q (o :: rest) a w := by
  obtain ⟨i0, hi, hz0, hz1, hz2⟩ := info_parts infoI
  have hown' : w.ownsRow base 3 1 v n (xs.map (Value.int .i64)) := by
    have h2 := hown
    unfold OwnI at h2
    rw [hxn] at h2
    exact h2
  cases ad with
  | none =>
    obtain rfl : c = 0 := hnc rfl
    have hn0 : news = [] := by
      rcases hrow with h2 | ⟨_, _, h2, _⟩
      · exact h2
      · cases h2
    subst hn0
    obtain rfl : m = 0 := hl.symm
    refine wpList_append_own_none hgd s x 31 ho base 3 i0 1 Try.underlying31 hi v n _ hs hown' hx (h v w ?_ ⟨rfl, rfl, rfl, Nat.le_refl _, fun _ _ _ => rfl⟩ (.inl rfl))
    rw [List.append_nil]
    exact hown
  | some ad =>
    have hfl : (news.map (Value.int .i64)).length = m * 1 := by rw [List.length_map, hl, Nat.mul_one]
    refine wpList_append_own_at _ hgd s x 31 ho base 3 i0 (.int .i64 0) 1 8 Try.underlying31 hi hz0 hz1 hz2 rfl (by decide) v n _ hs hown' ad m c (news.map (Value.int .i64)) hx hfl (RowI.src hrow) (fun u hu => by obtain ⟨z, _, rfl⟩ := List.mem_map.1 hu; rfl) (by unfold maxLen; omega) (by omega) hbase ?_
    intro v' w' ho2 hg _ hat
    refine h v' w' ?_ hg hat
    unfold OwnI
    rw [List.length_append, hxn, hl, List.map_append]
    exact ho2

end Go.Proofs.Ythplhjdfajhmpaa

namespace Go.Proofs.Ythplhjdfajhmpaa
open Go.RowKit Go.PlainAid

set_option linter.unusedVariables false

/-- A row of numbers in a block of the call's own. -/
def OwnJ (B : Nat) (v : Value) (l : List Int) (w : World) : Prop :=
  ∃ a n c, v = .slice a n c ∧ l.length = n ∧ ((a = none ∧ n = 0 ∧ c = 0) ∨ ∃ g off cur, a = some ⟨g, off, none⟩ ∧ B ≤ g ∧ w.heap[g]? = some (.cells cur 3 (0, 0)) ∧ ∀ i, i < n → cur[off + i]? = some (.int .i64 (l.getD i 0)))

theorem OwnI.toJ {B n c : Nat} {a : Option Addr} {l : List Int} {w : World} (hn : l.length = n) (h : OwnI B (.slice a n c) l w) : OwnJ B (.slice a n c) l w := by
  refine ⟨a, n, c, rfl, hn, ?_⟩
  rcases h.2 with ⟨hv, h0⟩ | ⟨g, cap, cur, hv, hB, hh, _, _, hs, ht⟩
  · cases hv
    exact .inl ⟨rfl, by omega, rfl⟩
  · cases hv
    refine .inr ⟨g, 0, cur, rfl, hB, hh, fun i hi => ?_⟩
    rw [Nat.zero_add]
    have h1 : (cur.toList.take (l.length * 1))[i]? = (l.map (Value.int .i64))[i]? := by rw [ht]
    rw [List.getElem?_take_of_lt (by omega), List.getElem?_map] at h1
    rw [← Array.getElem?_toList, h1, List.getD_eq_getElem?_getD]
    cases e : l[i]? with
    | none => rw [List.getElem?_eq_none_iff] at e; omega
    | some z => rfl

theorem OwnJ.at {B n c : Nat} {a : Option Addr} {l : List Int} {w : World} (h : OwnJ B (.slice a n c) l w) {k : Nat} (hk : k < l.length) :
    ∃ g off, a = some ⟨g, off, none⟩ ∧ w.cell? ⟨g, off + k, none⟩ = some (.int .i64 (l.getD k 0)) ∧ w.frozen? ⟨g, off + k, none⟩ = false ∧ B ≤ g ∧ g < w.heap.size := by
  obtain ⟨_, _, _, hv, hl, h | ⟨g, off, cur, rfl, hB, hh, hc⟩⟩ := h
  · cases hv; omega
  · cases hv
    exact ⟨g, off, rfl, by simp only [World.cell?, hh]; exact hc k (by omega), by simp [World.frozen?, hh], hB, lt_of_block hh⟩

theorem OwnJ.row {B n c : Nat} {a : Option Addr} {l : List Int} {w : World} (h : OwnJ B (.slice a n c) l w) : RowI w a l := by
  obtain ⟨_, _, _, hv, hl, ⟨h1, h2, h3⟩ | ⟨g, off, cur, rfl, hB, hh, hc⟩⟩ := h
  · cases hv
    exact .inl (List.length_eq_zero_iff.1 (by omega))
  · cases hv
    exact .inr ⟨g, off, rfl, fun i hi => by simp only [World.cell?, hh]; exact hc i (by omega)⟩

theorem OwnJ.mono {B C : Nat} {v : Value} {l : List Int} {w : World} (h : OwnJ B v l w) (hC : C ≤ B) : OwnJ C v l w := by
  obtain ⟨a, n, c, hv, hl, h | ⟨g, off, cur, ha, hB, hh, hc⟩⟩ := h
  · exact ⟨a, n, c, hv, hl, .inl h⟩
  · exact ⟨a, n, c, hv, hl, .inr ⟨g, off, cur, ha, Nat.le_trans hC hB, hh, hc⟩⟩

theorem OwnJ.same {B n c : Nat} {a : Option Addr} {l : List Int} {w w' : World} (h : OwnJ B (.slice a n c) l w) (hk : ∀ x, a = some x → w'.heap[x.block]? = w.heap[x.block]?) : OwnJ B (.slice a n c) l w' := by
  obtain ⟨_, _, _, hv, hl, h | ⟨g, off, cur, rfl, hB, hh, hc⟩⟩ := h
  · exact ⟨_, _, _, hv, hl, .inl h⟩
  · cases hv
    exact ⟨_, _, _, rfl, hl, .inr ⟨g, off, cur, rfl, hB, (hk _ rfl).trans hh, hc⟩⟩

theorem OwnJ.lo {B n c : Nat} {a : Option Addr} {l : List Int} {w : World} (h : OwnJ B (.slice a n c) l w) : ∀ x, a = some x → B ≤ x.block ∧ x.block < w.heap.size := by
  obtain ⟨_, _, _, hv, hl, ⟨h1, _, _⟩ | ⟨g, off, cur, rfl, hB, hh, hc⟩⟩ := h
  · cases hv
    rintro x rfl
    cases h1
  · cases hv
    rintro x hx
    cases hx
    exact ⟨hB, lt_of_block hh⟩

theorem OwnJ.nil {B n c : Nat} {a : Option Addr} {l : List Int} {w : World} (h : OwnJ B (.slice a n c) l w) : a = none → c = 0 := by
  obtain ⟨_, _, _, hv, hl, ⟨h1, h2, h3⟩ | ⟨g, off, cur, rfl, hB, hh, hc⟩⟩ := h
  · cases hv
    exact fun _ => h3
  · cases hv
    intro h
    cases h

theorem OwnJ.below {B n c : Nat} {a : Option Addr} {l : List Int} {w w' : World} (h : OwnJ B (.slice a n c) l w) (hb : Below w.heap.size w w') : OwnJ B (.slice a n c) l w' :=
  h.same (fun x hx => hb.block _ (h.lo x hx).2)

theorem OwnJ.keep {B c n : Nat} {a : Option Addr} {l : List Int} {w w' : World} {g : Nat} (h : OwnJ B (.slice a n c) l w) (ho : Only g w w') (hne : ∀ x, a = some x → x.block ≠ g) : OwnJ B (.slice a n c) l w' :=
  h.same (fun x hx => ho.block _ (h.lo x hx).2 (hne x hx))

theorem OwnJ.alloc {B c n : Nat} {a : Option Addr} {l : List Int} {w : World} (p : OwnJ B (.slice a n c) l w) (o : Obj) : OwnJ B (.slice a n c) l (w.alloc o) :=
  p.below ((Below.refl _ _).alloc (Nat.le_refl _) o)

theorem ownJ_set {B c n : Nat} {a : Option Addr} {l : List Int} {w : World} {p : Addr} (hp : p.block < B) (h : OwnJ B (.slice a n c) l w) (v : Value) : OwnJ B (.slice a n c) l (w.setCell p v) :=
  h.same (fun x hx => Below.heap_setCell _ _ _ _ (by have := (h.lo x hx).1; omega))

theorem OwnJ.set {B c n : Nat} {a : Option Addr} {l : List Int} {w : World} {p : Addr} (h : OwnJ B (.slice a n c) l w) (hp : ∀ x, a = some x → x.block ≠ p.block) (v : Value) : OwnJ B (.slice a n c) l (w.setCell p v) :=
  h.same (fun x hx => Below.heap_setCell _ _ _ _ (hp x hx))

theorem OwnJ.stored {B n c g off : Nat} {l : List Int} {w : World} (h : OwnJ B (.slice (some ⟨g, off, none⟩) n c) l w) (hl : l.length = n) {k : Nat} (hk : k < n) (x : Int) : OwnJ B (.slice (some ⟨g, off, none⟩) n c) (l.set k x) (w.setCell ⟨g, off + k, none⟩ (.int .i64 x)) := by
  obtain ⟨_, _, _, hv, _, ⟨h1, _, _⟩ | ⟨g', off', cur, hg, hB, hh, hc⟩⟩ := h
  · cases hv; cases h1
  · cases hv
    cases hg
    refine ⟨_, _, _, rfl, by rw [List.length_set]; exact hl, .inr ⟨g, off, cur.setIfInBounds (off + k) (.int .i64 x), rfl, hB, ?_, fun i hi => ?_⟩⟩
    · exact set_cells hh (off + k) (.int .i64 x)
    · by_cases e : i = k
      · subst e
        have hlt : off + i < cur.size := by
          have := hc i hi
          rcases Nat.lt_or_ge (off + i) cur.size with h | h
          · exact h
          · rw [Array.getElem?_eq_none h] at this; cases this
        rw [Array.getElem?_setIfInBounds_self_of_lt hlt, List.getD_eq_getElem?_getD, List.getElem?_set_self (by omega)]
        rfl
      · rw [Array.getElem?_setIfInBounds_ne (by omega), List.getD_eq_getElem?_getD, List.getElem?_set_ne (by omega), ← List.getD_eq_getElem?_getD]
        exact hc i hi

/-- A call that answers a summary whose rows are its own, the second one anywhere in its block. -/
def GivesRj (n1 n2 : Nat) (la ac : List Int) (w : World) (e : Ending) (w' : World) : Prop :=
  ∃ a1 c1 a2 c2, e = .returned (.agg #[.slice a1 n1 c1, .slice a2 n2 c2]) ∧ OwnI w.heap.size (.slice a1 n1 c1) la w' ∧ OwnJ w.heap.size (.slice a2 n2 c2) ac w' ∧ Apt a1 a2 ∧ Below w.heap.size w w'

theorem GivesRd.toJ {n1 n2 : Nat} {la ac : List Int} {w w' : World} {e : Ending} (hn : ac.length = n2) (h : GivesRd n1 n2 la ac w e w') : GivesRj n1 n2 la ac w e w' := by
  obtain ⟨a1, c1, a2, c2, rfl, o1, o2, hp, hb⟩ := h
  exact ⟨a1, c1, a2, c2, rfl, o1, o2.toJ hn, hp, hb⟩

/-- From operation s on a variable is there; behind t it holds a rank with a row of its own. -/
def MadeJ (s t base n1 n2 : Nat) (la ac : List Int) (listed : Array Bool) (x : Nat → Value) (u : World) : Prop :=
  (listed.getD t false = true → listed.getD s false = true) ∧
  (listed.getD s false = true → ∃ g, x s = .pointer (some ⟨g, 0, none⟩) ∧ base ≤ g ∧
    (listed.getD t false = false → u.heap[g]? = some (.cells #[.slice none 0 0, .slice none 0 0] 33)) ∧
    (listed.getD t false = true → ∃ aa ca ab cb, u.heap[g]? = some (.cells #[.slice aa n1 ca, .slice ab n2 cb] 33) ∧ OwnI base (.slice aa n1 ca) la u ∧ OwnJ base (.slice ab n2 cb) ac u ∧ Apt aa ab))

theorem MadeJ.zero (s t base n1 n2 : Nat) (la ac : List Int) (k : Nat) (x : Nat → Value) (u : World) : MadeJ s t base n1 n2 la ac (Array.replicate k false) x u :=
  ⟨fun h => (by rw [getD_replicate_false] at h; cases h), fun h => by rw [getD_replicate_false] at h; cases h⟩

theorem MadeJ.keep {s t base n1 n2 : Nat} {la ac : List Int} {listed : Array Bool} {x : Nat → Value} {u u' : World} (h : MadeJ s t base n1 n2 la ac listed x u) {i : Nat} (hs : i ≠ s) (ht : i ≠ t) (v : Value) (hb : Below u.heap.size u u') :
    MadeJ s t base n1 n2 la ac (listed.setIfInBounds i true) (upd x i v) u' := by
  refine ⟨fun h1 => ?_, fun h1 => ?_⟩
  · rw [getD_set_ne false ht] at h1
    exact getD_set_true (h.1 h1)
  · rw [getD_set_ne false hs] at h1
    rw [getD_set_ne false ht]
    obtain ⟨g, e, hg, hz, hf⟩ := h.2 h1
    refine ⟨g, by rw [upd_other _ _ (Ne.symm hs)]; exact e, hg, fun h0 => keep_block hb (hz h0) (lt_of_block (hz h0)), fun h0 => ?_⟩
    obtain ⟨aa, ca, ab, cb, hh, ho, hp, hq⟩ := hf h0
    exact ⟨aa, ca, ab, cb, keep_block hb hh (lt_of_block hh), ho.below hb, hp.below hb, hq⟩

theorem MadeJ.new {s t base n1 n2 : Nat} {la ac : List Int} {listed : Array Bool} {x : Nat → Value} {u : World} (h : MadeJ s t base n1 n2 la ac listed x u) (hst : s ≠ t) (hs : listed.getD s false = false) (hb : base ≤ u.heap.size) :
    MadeJ s t base n1 n2 la ac (listed.setIfInBounds s true) (upd x s (.pointer (some ⟨u.heap.size, 0, none⟩))) (u.alloc (.cells #[.slice none 0 0, .slice none 0 0] 33)) := by
  have ht : listed.getD t false = false := by
    cases e : listed.getD t false with
    | false => rfl
    | true => have := h.1 e; rw [hs] at this; cases this
  refine ⟨fun h1 => ?_, fun h1 => ?_⟩
  · rw [getD_set_ne false hst, ht] at h1; cases h1
  · rw [getD_set_ne false hst, ht]
    exact ⟨_, upd_same _ _ _, hb, fun _ => heap_alloc_new _ _, fun h0 => by cases h0⟩

theorem MadeJ.there {s t base n1 n2 : Nat} {la ac : List Int} {listed : Array Bool} {x : Nat → Value} {u : World} (h : MadeJ s t base n1 n2 la ac listed x u) (hs : listed.getD s false = true) (ht : listed.getD t false = false) :
    ∃ g, x s = .pointer (some ⟨g, 0, none⟩) ∧ base ≤ g ∧ u.heap[g]? = some (.cells #[.slice none 0 0, .slice none 0 0] 33) := by
  obtain ⟨g, e, hg, hz, _⟩ := h.2 hs
  exact ⟨g, e, hg, hz ht⟩

theorem MadeJ.fill {s t base n1 n2 : Nat} {la ac : List Int} {listed : Array Bool} {x : Nat → Value} {u' : World} {g ca cb : Nat} {aa ab : Option Addr} {v : Value} (hst : s ≠ t) (hs : listed.getD s false = true) (ht : t < listed.size) (hx : x s = .pointer (some ⟨g, 0, none⟩)) (hg : base ≤ g)
    (hh : u'.heap[g]? = some (.cells #[.slice aa n1 ca, .slice ab n2 cb] 33)) (ho : OwnI base (.slice aa n1 ca) la u') (hp : OwnJ base (.slice ab n2 cb) ac u') (hq : Apt aa ab) : MadeJ s t base n1 n2 la ac (listed.setIfInBounds t true) (upd x t v) u' := by
  refine ⟨fun _ => getD_set_true hs, fun _ => ⟨g, by rw [upd_other _ _ hst]; exact hx, hg, fun h0 => ?_, fun _ => ⟨aa, ca, ab, cb, hh, ho, hp, hq⟩⟩⟩
  rw [get_set_same false ht] at h0
  cases h0

theorem MadeJ.full {s t base n1 n2 : Nat} {la ac : List Int} {listed : Array Bool} {x : Nat → Value} {u : World} (h : MadeJ s t base n1 n2 la ac listed x u) (hs : listed.getD s false = true) (ht : listed.getD t false = true) :
    ∃ g aa ca ab cb, x s = .pointer (some ⟨g, 0, none⟩) ∧ base ≤ g ∧ u.heap[g]? = some (.cells #[.slice aa n1 ca, .slice ab n2 cb] 33) ∧ OwnI base (.slice aa n1 ca) la u ∧ OwnJ base (.slice ab n2 cb) ac u ∧ Apt aa ab := by
  obtain ⟨g, e, hg, _, hf⟩ := h.2 hs
  obtain ⟨aa, ca, ab, cb, hh, ho, hp, hq⟩ := hf ht
  exact ⟨g, aa, ca, ab, cb, e, hg, hh, ho, hp, hq⟩

end Go.Proofs.Ythplhjdfajhmpaa

namespace Go.Proofs.Ythplhjdfajhmpaa
open Go.RowKit

set_option linter.unusedVariables false

theorem OwnI.capI {B n c : Nat} {a : Option Addr} {l : List Int} {w : World} (h : OwnI B (.slice a n c) l w) : n ≤ c := by
  rcases h.2 with ⟨hv, h0⟩ | ⟨b, cap, cur, hv, hB, hk, hc, _⟩
  · cases hv
    exact Nat.zero_le _
  · cases hv
    exact hc

def IReadyNew : Prop := ∀ (g0 B g2 g3 : Int) (N : Nat) (hN : bankN g0 B g2 g3 = (N : Int)) (la : List Int) (hla : newL g0 B g2 g3 N = la) (n1 : Nat) (hn1 : la.length = n1) (w : World), Calls Try.prog 12 #[.agg #[.int .i64 g0, .int .i64 B, .int .i64 g2, .int .i64 g3]] w (GivesRd n1 0 la [] w)

def IReadyAfter : Prop := ∀ (g0 B g2 g3 : Int) (N : Nat) (hN : bankN g0 B g2 g3 = (N : Int)) (a1 : Option Addr) (n1 c1 : Nat) (la : List Int) (a2 : Option Addr) (n2 c2 : Nat) (ac : List Int) (e : Ev) (l' a' : List Int) (n2' : Nat) (hl' : rdL g0 B g2 g3 N la ac e = l') (ha' : rdA g0 B g2 g3 N la ac e = a') (hn2' : a'.length = n2') (hl1 : la.length = n1) (h1 : n1 ≤ 3000000) (hl2 : ac.length = n2) (h2 : n2 ≤ 3000000) (hnc1 : a1 = none → c1 = 0) (hnc2 : a2 = none → c2 = 0) (hc1 : n1 ≤ c1) (w : World) (hr1 : RowI w a1 la) (hr2 : RowI w a2 ac), Calls Try.prog 15 #[.agg #[.int .i64 g0, .int .i64 B, .int .i64 g2, .int .i64 g3], .agg #[.slice a1 n1 c1, .slice a2 n2 c2], .agg #[.int .i64 e.t, .int .i64 e.k, .int .i64 e.x, .int .i64 e.y, .int .i64 e.z]] w (GivesRj n1 n2' l' a' w)

def IReadyOf : Prop := ∀ (g0 B g2 g3 : Int) (N : Nat) (hN : bankN g0 B g2 g3 = (N : Int)) (a : Option Addr) (n c : Nat) (L : List Ev) (la ac : List Int) (n1 n2 : Nat) (hla : (ofT g0 B g2 g3 N L).1 = la) (hac : (ofT g0 B g2 g3 N L).2 = ac) (hn1 : la.length = n1) (hn2 : ac.length = n2) (hl : L.length = n) (h1 : n ≤ 3000000) (hnc : a = none → c = 0) (w : World) (hr : evK.Row w a L), Calls Try.prog 14 #[.agg #[.int .i64 g0, .int .i64 B, .int .i64 g2, .int .i64 g3], .slice a n c] w (GivesRj n1 n2 la ac w)

end Go.Proofs.Ythplhjdfajhmpaa

namespace Go.Proofs.Ythplhjdfajhmpaa
open Go.RowKit Go.PlainAid

set_option linter.unusedVariables false

theorem OwnI.nil {B n c : Nat} {a : Option Addr} {l : List Int} {w : World} (h : OwnI B (.slice a n c) l w) : a = none → c = 0 := by
  intro ha
  subst ha
  rcases h.2 with ⟨hv, _⟩ | ⟨b, cap, cur, hv, _⟩
  · cases hv; rfl
  · cases hv

end Go.Proofs.Ythplhjdfajhmpaa

namespace Go.Proofs.Ythplhjdfajhmpaa
open Go.RowKit Go.PlainAid

set_option linter.unusedVariables false

theorem addL_len (N : Nat) (la : List Int) (e : Ev) : (addL N la e).length = la.length := by unfold addL; rw [List.length_set]

theorem rdL_len (g0 B g2 g3 : Int) (N : Nat) (la ac : List Int) (e : Ev) : (rdL g0 B g2 g3 N la ac e).length = la.length := by
  unfold rdL
  split
  · exact addL_len _ _ _
  · rfl

theorem rdA_len (g0 B g2 g3 : Int) (N : Nat) (la ac : List Int) (e : Ev) (h : ac.length ≤ 4) : (rdA g0 B g2 g3 N la ac e).length ≤ 4 := by
  unfold rdA
  split
  · unfold addA
    split
    · split <;> simp at * <;> omega
    · exact h
  · exact h

end Go.Proofs.Ythplhjdfajhmpaa
