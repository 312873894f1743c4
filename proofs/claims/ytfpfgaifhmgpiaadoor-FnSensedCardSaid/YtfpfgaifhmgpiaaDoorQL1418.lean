/-
  Texts of one proof, merged: RdyC, RdyJ, KnB, KnM, KnE, CelK, CelT, ArrK, CodW, CodI, CodV, CodF, ArrM, KnA, ArrC2, ArrD, ArrE, ArrF, ArrG, ArrH, ArrI, ArrJ, ArrL, ArrN, ArrS, ArrU, ArrV, CodK, ArrP.
-/
import Derived.Test.YtfpfgaifhmgpiaaDoorQL141
import Derived.Test.YtfpfgaifhmgpiaaDoorQL142
import Derived.Test.YtfpfgaifhmgpiaaDoorQL146
import Derived.Test.YtfpfgaifhmgpiaaDoorQL148
import Derived.Test.YtfpfgaifhmgpiaaDoorQL149
import Derived.Test.YtfpfgaifhmgpiaaDoorQL1410
import Derived.Test.YtfpfgaifhmgpiaaDoorQL1411
import Derived.Test.YtfpfgaifhmgpiaaDoorQL1412
import Derived.Test.YtfpfgaifhmgpiaaDoorQL1414
import Derived.Test.YtfpfgaifhmgpiaaDoorQL1415
import Derived.Test.YtfpfgaifhmgpiaaDoorQL1416
import Derived.Test.YtfpfgaifhmgpiaaDoorQL1417
import Derived.Deep.AppendLies
import Derived.Maps.AppendAt
namespace Go.Proofs.YtfpfgaifhmgpiaaDoor
open Go.RowKit Go.PlainAid

set_option linter.unusedVariables false

theorem RowI.src {w : World} {ad : Addr} {l : List Int} (h : RowI w (some ad) l) : ∀ j u, (l.map (Value.int .i64))[j]? = some u → w.cell? (ad.add j) = some u := by
  rcases h with rfl | ⟨b, off, hb, h⟩
  · intro j u hu; simp at hu
  · cases hb
    intro j u hu
    rw [List.getElem?_map] at hu
    cases hl : l[j]? with
    | none => rw [hl] at hu; cases hu
    | some z =>
      rw [hl] at hu
      cases hu
      have hj : j < l.length := by
        rcases Nat.lt_or_ge j l.length with h1 | h1
        · exact h1
        · rw [List.getElem?_eq_none h1] at hl; cases hl
      have h2 := h j hj
      rw [List.getD_eq_getElem?_getD, hl] at h2
      unfold Addr.add
      by_cases h0 : j = 0
      · subst h0
        rw [if_pos rfl]
        exact h2
      · rw [if_neg h0]
        exact h2

/-- Holds till operation L. -/
def TillW (L : Nat) (F : World → Prop) (listed : Array Bool) (u : World) : Prop := listed.getD L false = false → F u

theorem TillW.gone {L : Nat} {F : World → Prop} {listed : Array Bool} {u : World} (h : L < listed.size) : TillW L F (listed.setIfInBounds L true) u := fun h2 => by rw [get_set_same false h] at h2; cases h2

/-- Holds behind operation L. -/
def FromW (L : Nat) (F : World → Prop) (listed : Array Bool) (u : World) : Prop := listed.getD L false = true → F u

theorem FromW.zero (L : Nat) (F : World → Prop) (n : Nat) (u : World) : FromW L F (Array.replicate n false) u := fun h => by rw [getD_replicate_false] at h; cases h

theorem FromW.no {L i : Nat} {F : World → Prop} {listed : Array Bool} {u : World} (h : listed.getD L false = false) (hi : i ≠ L) : FromW L F (listed.setIfInBounds i true) u := fun h2 => by rw [getD_set_ne false hi, h] at h2; cases h2

/-- Operation L comes last. -/
def AllW (L : Nat) (listed : Array Bool) : Prop := ∀ j, j < L → Aft L j listed

theorem AllW.keep {L i : Nat} {listed : Array Bool} (h : AllW L listed) (hi : i ≠ L) : AllW L (listed.setIfInBounds i true) := fun j hj => (h j hj).keep hi

/-- The rows that operations i and j answered lie apart, till operation m. -/
def AptR (i j m n1 n2 : Nat) (listed : Array Bool) (x : Nat → Value) : Prop := listed.getD j false = true → listed.getD m false = false → ∃ aa ca ab cb, x i = .slice aa n1 ca ∧ x j = .slice ab n2 cb ∧ Apt aa ab

theorem AptR.zero (i j m n1 n2 n : Nat) (x : Nat → Value) : AptR i j m n1 n2 (Array.replicate n false) x := fun h => by rw [getD_replicate_false] at h; cases h

theorem AptR.keep {i j m n1 n2 : Nat} {listed : Array Bool} {x : Nat → Value} (h : AptR i j m n1 n2 listed x) {k : Nat} (hi : k ≠ i) (hj : k ≠ j) (hm : k ≠ m) (v : Value) : AptR i j m n1 n2 (listed.setIfInBounds k true) (upd x k v) := fun h1 h2 => by
  rw [getD_set_ne false hj] at h1
  rw [getD_set_ne false hm] at h2
  rw [upd_other _ _ (Ne.symm hi), upd_other _ _ (Ne.symm hj)]
  exact h h1 h2

theorem AptR.no {i j m n1 n2 : Nat} {listed : Array Bool} {x : Nat → Value} (h : listed.getD j false = false) {k : Nat} (hj : k ≠ j) (v : Value) : AptR i j m n1 n2 (listed.setIfInBounds k true) (upd x k v) := fun h1 _ => by
  rw [getD_set_ne false hj, h] at h1; cases h1

theorem AptR.new {i j m n1 n2 : Nat} {listed : Array Bool} {x : Nat → Value} {ab : Option Addr} {cb : Nat} (hij : i ≠ j) (h : ∃ aa ca, x i = .slice aa n1 ca ∧ Apt aa ab) : AptR i j m n1 n2 (listed.setIfInBounds j true) (upd x j (.slice ab n2 cb)) := fun _ _ => by
  obtain ⟨aa, ca, e1, e2⟩ := h
  exact ⟨aa, ca, ab, cb, by rw [upd_other _ _ hij]; exact e1, upd_same _ _ _, e2⟩

theorem AptR.call {i j m n1 n2 : Nat} {listed : Array Bool} {x : Nat → Value} (h : m < listed.size) : AptR i j m n1 n2 (listed.setIfInBounds m true) x := fun _ h2 => by rw [get_set_same false h] at h2; cases h2

/-- Numbers appended to a row of the call's own; where the new row lies. -/
theorem append_int {ops : Array Oper} {rest : List Oper} {o : Oper} {a : Act} {w : World} {Q : Exit → Act → World → Prop} (hgd : o.guard = none) (s x : Operand) (ho : o.op = .call { callee := .builtin .append, args := #[s, x], argTypes := #[29, 29] })
    (base : Nat) (v : Value) (n : Nat) (xs : List Int) (hs : a.eval s = v) (hown : OwnI base v xs w) (hxn : xs.length = n) (ad : Option Addr) (m c : Nat) (news : List Int) (hx : a.eval x = .slice ad m c) (hl : news.length = m) (hnc : ad = none → c = 0) (hrow : RowI w ad news) (hbig : n + m ≤ 3500000) (hbase : base ≤ w.heap.size)
    (h : ∀ v' w', OwnI base v' (xs ++ news) w' → w.grownBy w' v.ownBlock → (v'.ownBlock = v.ownBlock ∨ v'.ownBlock = some w.heap.size) → wpList Tryd.prog ops Q rest (a.put o.dst v') w') : wpList Tryd.prog ops Q (o :: rest) a w := by
  obtain ⟨i0, hi, hz0, hz1, hz2⟩ := info_parts infoI
  have hown' : w.ownsRow base 3 1 v n (xs.map (Value.int .i64)) := by
    have h2 := hown
    unfold OwnI at h2
    rw [hxn] at h2
    exact h2
  cases ad with
  | none =>
    obtain rfl : c = 0 := hnc rfl
    have hn0 : news = [] := by
      rcases hrow with h2 | ⟨_, _, h2, _⟩
      · exact h2
      · cases h2
    subst hn0
    obtain rfl : m = 0 := hl.symm
    refine wpList_append_own_none hgd s x 29 ho base 3 i0 1 Tryd.underlying29 hi v n _ hs hown' hx (h v w ?_ ⟨rfl, rfl, rfl, Nat.le_refl _, fun _ _ _ => rfl⟩ (.inl rfl))
    rw [List.append_nil]
    exact hown
  | some ad =>
    have hfl : (news.map (Value.int .i64)).length = m * 1 := by rw [List.length_map, hl, Nat.mul_one]
    refine wpList_append_own_at _ hgd s x 29 ho base 3 i0 (.int .i64 0) 1 8 Tryd.underlying29 hi hz0 hz1 hz2 rfl (by decide) v n _ hs hown' ad m c (news.map (Value.int .i64)) hx hfl (RowI.src hrow) (fun u hu => by obtain ⟨z, _, rfl⟩ := List.mem_map.1 hu; rfl) (by unfold maxLen; omega) (by omega) hbase ?_
    intro v' w' ho2 hg _ hat
    refine h v' w' ?_ hg hat
    unfold OwnI
    rw [List.length_append, hxn, hl, List.map_append]
    exact ho2

end Go.Proofs.YtfpfgaifhmgpiaaDoor

namespace Go.Proofs.YtfpfgaifhmgpiaaDoor
open Go.RowKit Go.PlainAid

set_option linter.unusedVariables false

/-- A row of numbers in a block of the call's own. -/
def OwnJ (B : Nat) (v : Value) (l : List Int) (w : World) : Prop :=
  ∃ a n c, v = .slice a n c ∧ l.length = n ∧ ((a = none ∧ n = 0 ∧ c = 0) ∨ ∃ g off cur, a = some ⟨g, off, none⟩ ∧ B ≤ g ∧ w.heap[g]? = some (.cells cur 3 (0, 0)) ∧ ∀ i, i < n → cur[off + i]? = some (.int .i64 (l.getD i 0)))

theorem OwnI.toJ {B n c : Nat} {a : Option Addr} {l : List Int} {w : World} (hn : l.length = n) (h : OwnI B (.slice a n c) l w) : OwnJ B (.slice a n c) l w := by
  refine ⟨a, n, c, rfl, hn, ?_⟩
  rcases h.2 with ⟨hv, h0⟩ | ⟨g, cap, cur, hv, hB, hh, _, _, hs, ht⟩
  · cases hv
    exact .inl ⟨rfl, by omega, rfl⟩
  · cases hv
    refine .inr ⟨g, 0, cur, rfl, hB, hh, fun i hi => ?_⟩
    rw [Nat.zero_add]
    have h1 : (cur.toList.take (l.length * 1))[i]? = (l.map (Value.int .i64))[i]? := by rw [ht]
    rw [List.getElem?_take_of_lt (by omega), List.getElem?_map] at h1
    rw [← Array.getElem?_toList, h1, List.getD_eq_getElem?_getD]
    cases e : l[i]? with
    | none => rw [List.getElem?_eq_none_iff] at e; omega
    | some z => rfl

theorem OwnJ.at {B n c : Nat} {a : Option Addr} {l : List Int} {w : World} (h : OwnJ B (.slice a n c) l w) {k : Nat} (hk : k < l.length) :
    ∃ g off, a = some ⟨g, off, none⟩ ∧ w.cell? ⟨g, off + k, none⟩ = some (.int .i64 (l.getD k 0)) ∧ w.frozen? ⟨g, off + k, none⟩ = false ∧ B ≤ g ∧ g < w.heap.size := by
  obtain ⟨_, _, _, hv, hl, h | ⟨g, off, cur, rfl, hB, hh, hc⟩⟩ := h
  · cases hv; omega
  · cases hv
    exact ⟨g, off, rfl, by simp only [World.cell?, hh]; exact hc k (by omega), by simp [World.frozen?, hh], hB, lt_of_block hh⟩

theorem OwnJ.row {B n c : Nat} {a : Option Addr} {l : List Int} {w : World} (h : OwnJ B (.slice a n c) l w) : RowI w a l := by
  obtain ⟨_, _, _, hv, hl, ⟨h1, h2, h3⟩ | ⟨g, off, cur, rfl, hB, hh, hc⟩⟩ := h
  · cases hv
    exact .inl (List.length_eq_zero_iff.1 (by omega))
  · cases hv
    exact .inr ⟨g, off, rfl, fun i hi => by simp only [World.cell?, hh]; exact hc i (by omega)⟩

theorem OwnJ.mono {B C : Nat} {v : Value} {l : List Int} {w : World} (h : OwnJ B v l w) (hC : C ≤ B) : OwnJ C v l w := by
  obtain ⟨a, n, c, hv, hl, h | ⟨g, off, cur, ha, hB, hh, hc⟩⟩ := h
  · exact ⟨a, n, c, hv, hl, .inl h⟩
  · exact ⟨a, n, c, hv, hl, .inr ⟨g, off, cur, ha, Nat.le_trans hC hB, hh, hc⟩⟩

theorem OwnJ.same {B n c : Nat} {a : Option Addr} {l : List Int} {w w' : World} (h : OwnJ B (.slice a n c) l w) (hk : ∀ x, a = some x → w'.heap[x.block]? = w.heap[x.block]?) : OwnJ B (.slice a n c) l w' := by
  obtain ⟨_, _, _, hv, hl, h | ⟨g, off, cur, rfl, hB, hh, hc⟩⟩ := h
  · exact ⟨_, _, _, hv, hl, .inl h⟩
  · cases hv
    exact ⟨_, _, _, rfl, hl, .inr ⟨g, off, cur, rfl, hB, (hk _ rfl).trans hh, hc⟩⟩

theorem OwnJ.lo {B n c : Nat} {a : Option Addr} {l : List Int} {w : World} (h : OwnJ B (.slice a n c) l w) : ∀ x, a = some x → B ≤ x.block ∧ x.block < w.heap.size := by
  obtain ⟨_, _, _, hv, hl, ⟨h1, _, _⟩ | ⟨g, off, cur, rfl, hB, hh, hc⟩⟩ := h
  · cases hv
    rintro x rfl
    cases h1
  · cases hv
    rintro x hx
    cases hx
    exact ⟨hB, lt_of_block hh⟩

theorem OwnJ.nil {B n c : Nat} {a : Option Addr} {l : List Int} {w : World} (h : OwnJ B (.slice a n c) l w) : a = none → c = 0 := by
  obtain ⟨_, _, _, hv, hl, ⟨h1, h2, h3⟩ | ⟨g, off, cur, rfl, hB, hh, hc⟩⟩ := h
  · cases hv
    exact fun _ => h3
  · cases hv
    intro h
    cases h

theorem OwnJ.below {B n c : Nat} {a : Option Addr} {l : List Int} {w w' : World} (h : OwnJ B (.slice a n c) l w) (hb : Below w.heap.size w w') : OwnJ B (.slice a n c) l w' :=
  h.same (fun x hx => hb.block _ (h.lo x hx).2)

theorem OwnJ.keep {B c n : Nat} {a : Option Addr} {l : List Int} {w w' : World} {g : Nat} (h : OwnJ B (.slice a n c) l w) (ho : Only g w w') (hne : ∀ x, a = some x → x.block ≠ g) : OwnJ B (.slice a n c) l w' :=
  h.same (fun x hx => ho.block _ (h.lo x hx).2 (hne x hx))

theorem OwnJ.alloc {B c n : Nat} {a : Option Addr} {l : List Int} {w : World} (p : OwnJ B (.slice a n c) l w) (o : Obj) : OwnJ B (.slice a n c) l (w.alloc o) :=
  p.below ((Below.refl _ _).alloc (Nat.le_refl _) o)

theorem OwnJ.set {B c n : Nat} {a : Option Addr} {l : List Int} {w : World} {p : Addr} (h : OwnJ B (.slice a n c) l w) (hp : ∀ x, a = some x → x.block ≠ p.block) (v : Value) : OwnJ B (.slice a n c) l (w.setCell p v) :=
  h.same (fun x hx => Below.heap_setCell _ _ _ _ (hp x hx))

theorem OwnJ.stored {B n c g off : Nat} {l : List Int} {w : World} (h : OwnJ B (.slice (some ⟨g, off, none⟩) n c) l w) (hl : l.length = n) {k : Nat} (hk : k < n) (x : Int) : OwnJ B (.slice (some ⟨g, off, none⟩) n c) (l.set k x) (w.setCell ⟨g, off + k, none⟩ (.int .i64 x)) := by
  obtain ⟨_, _, _, hv, _, ⟨h1, _, _⟩ | ⟨g', off', cur, hg, hB, hh, hc⟩⟩ := h
  · cases hv; cases h1
  · cases hv
    cases hg
    refine ⟨_, _, _, rfl, by rw [List.length_set]; exact hl, .inr ⟨g, off, cur.setIfInBounds (off + k) (.int .i64 x), rfl, hB, ?_, fun i hi => ?_⟩⟩
    · exact set_cells hh (off + k) (.int .i64 x)
    · by_cases e : i = k
      · subst e
        have hlt : off + i < cur.size := by
          have := hc i hi
          rcases Nat.lt_or_ge (off + i) cur.size with h | h
          · exact h
          · rw [Array.getElem?_eq_none h] at this; cases this
        rw [Array.getElem?_setIfInBounds_self_of_lt hlt, List.getD_eq_getElem?_getD, List.getElem?_set_self (by omega)]
        rfl
      · rw [Array.getElem?_setIfInBounds_ne (by omega), List.getD_eq_getElem?_getD, List.getElem?_set_ne (by omega), ← List.getD_eq_getElem?_getD]
        exact hc i hi

/-- A call that answers a summary whose rows are its own, the second one anywhere in its block. -/
def GivesRj (n1 n2 : Nat) (la ac : List Int) (w : World) (e : Ending) (w' : World) : Prop :=
  ∃ a1 c1 a2 c2, e = .returned (.agg #[.slice a1 n1 c1, .slice a2 n2 c2]) ∧ OwnI w.heap.size (.slice a1 n1 c1) la w' ∧ OwnJ w.heap.size (.slice a2 n2 c2) ac w' ∧ Apt a1 a2 ∧ Below w.heap.size w w'

theorem GivesRd.toJ {n1 n2 : Nat} {la ac : List Int} {w w' : World} {e : Ending} (hn : ac.length = n2) (h : GivesRd n1 n2 la ac w e w') : GivesRj n1 n2 la ac w e w' := by
  obtain ⟨a1, c1, a2, c2, rfl, o1, o2, hp, hb⟩ := h
  exact ⟨a1, c1, a2, c2, rfl, o1, o2.toJ hn, hp, hb⟩

end Go.Proofs.YtfpfgaifhmgpiaaDoor

namespace Go.Proofs.YtfpfgaifhmgpiaaDoor
open Go.RowKit Go.PlainAid

set_option linter.unusedVariables false

def intK : Kn Int := Kn.flat (fun x => [.int .i64 x]) 1 (fun _ => rfl)

def boolK : Kn Bool := Kn.flat (fun b => [.bool b]) 1 (fun _ => rfl)

/-- Slices of ints. -/
def intsK : Kn (List Int) := intK.row 3

theorem intK_rds {w : World} : ∀ {l : List Int} {xs : List Value}, intK.rds w xs l → xs = l.map (Value.int .i64)
  | [], xs, h => h
  | x :: l, xs, ⟨c1, c2, e, h1, h2⟩ => by
    rw [e, show c1 = [.int .i64 x] from h1, intK_rds h2]
    rfl

theorem intK_owns (w : World) : ∀ (l : List Int), intK.owns w [] (l.map (Value.int .i64)) l
  | [] => ⟨rfl, rfl⟩
  | x :: l => ⟨[], [], [.int .i64 x], _, rfl, rfl, ⟨rfl, rfl⟩, intK_owns w l⟩

theorem map_int_get (l : List Int) {j : Nat} (hj : j < l.length) : (l.map (Value.int .i64))[j]? = some (.int .i64 (l.getD j 0)) := by
  rw [List.getElem?_map, List.getElem?_eq_getElem hj, List.getD_eq_getElem?_getD, List.getElem?_eq_getElem hj]
  rfl

/-- A row of ints that is read, in the older word. -/
theorem ints_row {w : World} {a : Option Addr} {n c : Nat} {l : List Int} (h : intsK.rd w [.slice a n c] l) : RowI w a l := by
  obtain ⟨a', n', c', xs, e, h1, h2, h3, h4, h5⟩ := h
  simp only [List.cons.injEq, Value.slice.injEq, and_true] at e
  obtain ⟨rfl, rfl, rfl⟩ := e
  have hx := intK_rds h4
  subst hx
  rcases h5 with h5 | ⟨g, off, ha, hc⟩
  · exact .inl h5
  · refine .inr ⟨g, off, ha, fun j hj => ?_⟩
    have := hc j (by rw [List.length_map]; exact hj)
    rw [map_int_get l hj] at this
    exact this

theorem ints_of_own {B : Nat} {w : World} {a : Option Addr} {n c : Nat} {l : List Int} (h : OwnJ B (.slice a n c) l w) (hc : n ≤ c) (hm : n ≤ maxLen) : ∃ S, intsK.own w S [.slice a n c] l ∧ ((l = [] ∧ S = []) ∨ (l ≠ [] ∧ ∃ g off, a = some ⟨g, off, none⟩ ∧ S = [g] ∧ B ≤ g)) := by
  obtain ⟨a', n', c', e, hl, h5⟩ := h
  cases e
  by_cases h0 : l = []
  · subst h0
    refine ⟨[], ⟨a, n, c, _, [], rfl, hl, ⟨hc, hm⟩, intK_owns w [], List.nodup_nil, .inl ⟨rfl, ?_, rfl⟩⟩, .inl ⟨rfl, rfl⟩⟩
    rcases h5 with ⟨ha, hn, h0⟩ | ⟨g, off, cur, ha, _⟩
    · exact fun _ => h0
    · intro h; rw [ha] at h; cases h
  rcases h5 with ⟨ha, hn, _⟩ | ⟨g, off, cur, ha, hB, hh, hcur⟩
  · exact absurd (List.length_eq_zero_iff.1 (by omega)) h0
  · refine ⟨[g], ⟨a, n, c, _, [], rfl, hl, ⟨hc, hm⟩, intK_owns w l, List.nodup_cons.2 ⟨List.not_mem_nil, List.nodup_nil⟩, .inr ⟨g, off, cur, ha, hh, fun j hj => ?_, rfl⟩⟩, .inr ⟨h0, g, off, ha, rfl, hB⟩⟩
    rw [List.length_map] at hj
    rw [hcur j (by omega), map_int_get l hj]

/-- A row of elements that is being built: it begins its block; behind it stand the blocks S. -/
def Kn.Bld {α : Type} (k : Kn α) (T : TypeId) (B : Nat) (w : World) (S : List Nat) (v : Value) (l : List α) : Prop :=
  ∃ xs, w.ownsRow B T k.K v l.length xs ∧ k.owns w S xs l ∧ S.Nodup ∧ (∀ b ∈ S, B ≤ b) ∧ ∀ g, v.ownBlock = some g → g ∉ S

variable {α : Type}

theorem Kn.Bld.nil (k : Kn α) (T : TypeId) (B : Nat) (w : World) : k.Bld T B w [] (.slice none 0 0) ([] : List α) :=
  ⟨[], World.ownsRow_nil _ _ _ _, ⟨rfl, rfl⟩, List.nodup_nil, (fun b hb => by cases hb), fun g hg => by cases hg⟩

theorem Kn.Bld.below {k : Kn α} {T : TypeId} {B : Nat} {w w' : World} {S : List Nat} {v : Value} {l : List α} (h : k.Bld T B w S v l) (hb : Below w.heap.size w w') : k.Bld T B w' S v l := by
  obtain ⟨xs, h1, h2, h3, h4, h5⟩ := h
  refine ⟨xs, ⟨h1.1, ?_⟩, k.owns_same h2 (fun b hm => hb.block b (k.owns_lt h2 b hm)), h3, h4, h5⟩
  rcases h1.2 with hv | ⟨b, cap, cur, hv, hB, hh, r⟩
  · exact .inl hv
  · exact .inr ⟨b, cap, cur, hv, hB, by rw [hb.block b (lt_of_block hh)]; exact hh, r⟩

theorem Kn.Bld.shape {k : Kn α} {T : TypeId} {B : Nat} {w : World} {S : List Nat} {v : Value} {l : List α} (h : k.Bld T B w S v l) : ∃ a c, v = .slice a l.length c ∧ l.length ≤ c ∧ c ≤ maxLen := by
  obtain ⟨xs, h1, _⟩ := h
  rcases h1.2 with ⟨rfl, h0⟩ | ⟨g, cap, cur, rfl, _, _, h2, h3, _⟩
  · exact ⟨none, 0, by rw [h0], by omega, Nat.zero_le _⟩
  · exact ⟨_, cap, rfl, h2, h3⟩

/-- What has been built is the call's own. -/
theorem Kn.Bld.own {k : Kn α} {T : TypeId} {B : Nat} {w : World} {S : List Nat} {v : Value} {l : List α} (h : k.Bld T B w S v l) : ∃ S', (k.row T).own w S' [v] l ∧ ∀ b ∈ S', B ≤ b := by
  obtain ⟨xs, h1, h2, h3, h4, h5⟩ := h
  have hx := k.rds_len (k.owns_rds h2)
  rcases h1.2 with ⟨rfl, h0⟩ | ⟨g, cap, cur, rfl, hB, hh, hn, hm, hcs, ht⟩
  · have hl : l = [] := List.length_eq_zero_iff.1 h0
    subst hl
    exact ⟨[], ⟨none, 0, 0, xs, S, rfl, rfl, ⟨Nat.le_refl _, Nat.zero_le _⟩, h2, List.nodup_nil, .inl ⟨rfl, fun _ => rfl, rfl⟩⟩, fun b hb => by cases hb⟩
  · refine ⟨g :: S, ⟨_, _, _, xs, S, rfl, rfl, ⟨hn, Nat.le_trans hn hm⟩, h2, List.nodup_cons.2 ⟨h5 g rfl, h3⟩, .inr ⟨g, 0, cur, rfl, hh, fun j hj => ?_, rfl⟩⟩, fun b hb => ?_⟩
    · have h6 : (cur.toList.take (l.length * k.K))[j]? = xs[j]? := by rw [ht]
      rw [List.getElem?_take_of_lt (by omega), Array.getElem?_toList] at h6
      rw [Nat.zero_add]
      exact h6
    · rcases List.mem_cons.1 hb with rfl | h
      · exact hB
      · exact h4 b h

theorem Kn.owns_snoc (k : Kn α) {w : World} {x : α} {S2 : List Nat} {cs : List Value} (hx : k.own w S2 cs x) : ∀ {l : List α} {S : List Nat} {xs : List Value}, k.owns w S xs l → k.owns w (S ++ S2) (xs ++ cs) (l ++ [x])
  | [], _, _, h => ⟨S2, [], cs, [], by rw [h.1]; simp, by rw [h.2]; simp, hx, rfl, rfl⟩
  | y :: l, _, _, ⟨S1, T, c1, c2, e1, e2, h1, h2⟩ => ⟨S1, T ++ S2, c1, c2 ++ cs, by rw [e1]; simp, by rw [e2]; simp, h1, k.owns_snoc hx h2⟩

/-- One element more: what an append leaves. -/
theorem Kn.Bld.more {k : Kn α} {T : TypeId} {B : Nat} {w w2 w3 : World} {S S2 : List Nat} {v v' : Value} {l : List α} {x : α} {cs xs : List Value}
    (h1 : k.owns w2 S xs l) (h3 : S.Nodup) (h4 : ∀ b ∈ S, B ≤ b) (h5 : ∀ g, v.ownBlock = some g → g ∉ S)
    (hx : k.own w2 S2 cs x) (hB : ∀ b ∈ S2, B ≤ b) (hd : ∀ b ∈ S2, b ∉ S) (hv : ∀ g, v.ownBlock = some g → g ∉ S2)
    (ho : w3.ownsRow B T k.K v' (l.length + 1) (xs ++ cs)) (hg : w2.grownBy w3 v.ownBlock) (hat : v'.ownBlock = v.ownBlock ∨ v'.ownBlock = some w2.heap.size) :
    k.Bld T B w3 (S ++ S2) v' (l ++ [x]) := by
  have hne : ∀ b, b ∈ S ++ S2 → w3.heap[b]? = w2.heap[b]? := fun b hb => by
    rcases List.mem_append.1 hb with h | h
    · exact hg.block b (k.owns_lt h1 b h) (fun e => h5 b e.symm h)
    · exact hg.block b (k.lt hx b h) (fun e => hv b e.symm h)
  refine ⟨xs ++ cs, by rw [List.length_append]; exact ho, k.owns_same (k.owns_snoc hx h1) hne, ?_, fun b hb => ?_, fun g hgv => ?_⟩
  · rw [List.nodup_append]
    exact ⟨h3, k.nodup hx, fun a ha b hb e => hd b hb (e ▸ ha)⟩
  · rcases List.mem_append.1 hb with h | h
    · exact h4 b h
    · exact hB b h
  · intro hm
    rcases hat with e | e
    · rw [e] at hgv
      rcases List.mem_append.1 hm with h | h
      · exact h5 g hgv h
      · exact hv g hgv h
    · rw [e] at hgv
      have := Option.some.inj hgv
      rcases List.mem_append.1 hm with h | h
      · have := k.owns_lt h1 g h; omega
      · have := k.lt hx g h; omega

/-- Elements that are all zero. -/
theorem Kn.owns_replicate (k : Kn α) {w : World} {z : α} {zc : List Value} (hz : k.own w [] zc z) : ∀ n, k.owns w [] (List.replicate n zc).flatten (List.replicate n z)
  | 0 => ⟨rfl, rfl⟩
  | n + 1 => ⟨[], [], zc, _, rfl, by rw [List.replicate_succ, List.flatten_cons], hz, k.owns_replicate hz n⟩

theorem made_flat (zc : List Value) (K n : Nat) (hz : zc.length = K) (hK : 0 < K) : (madeCells zc.toArray (n * K)).toList = (List.replicate n zc).flatten := by
  have h := (Kd.mk (fun _ : Unit => zc) () K (fun _ => hz) hK).made n
  rw [show (List.replicate n zc).flatten = (List.replicate n ()).flatMap (fun _ : Unit => zc) by
    clear h
    induction n with
    | zero => rfl
    | succ n ih => rw [List.replicate_succ, List.replicate_succ, List.flatten_cons, List.flatMap_cons, ih]]
  exact h

/-- What make leaves. -/
theorem Kn.Bld.made {k : Kn α} {T : TypeId} {B n : Nat} {w : World} {v : Value} {z : α} {zc : List Value} (hz : k.own w [] zc z) (hK : 0 < k.K) (h : w.ownsRow B T k.K v n (madeCells zc.toArray (n * k.K)).toList) : k.Bld T B w [] v (List.replicate n z) := by
  have hl := k.len (k.read hz)
  rw [made_flat zc k.K n hl hK] at h
  exact ⟨_, by rw [List.length_replicate]; exact h, k.owns_replicate hz n, List.nodup_nil, (fun b hb => by cases hb), fun g hg hm => by cases hm⟩

end Go.Proofs.YtfpfgaifhmgpiaaDoor

namespace Go.Proofs.YtfpfgaifhmgpiaaDoor
open Go.RowKit Go.PlainAid

set_option linter.unusedVariables false

variable {α : Type}

theorem intsK_shape {w : World} {cs : List Value} {l : List Int} (h : intsK.rd w cs l) : ∃ a n c, cs = [.slice a n c] ∧ l.length = n ∧ n ≤ c ∧ n ≤ maxLen ∧ (a = none → c = 0) := by
  obtain ⟨a, n, c, xs, e, h1, h2, h3, _⟩ := h
  exact ⟨a, n, c, e, h1, h2.1, h2.2, h3⟩

end Go.Proofs.YtfpfgaifhmgpiaaDoor

namespace Go.Proofs.YtfpfgaifhmgpiaaDoor
open Go.RowKit Go.PlainAid

set_option linter.unusedVariables false

variable {α β : Type}

/-- The blocks of a value are of these types. -/
def Kn.Ty (k : Kn α) (Ts : List TypeId) : Prop := ∀ {w : World} {S : List Nat} {cs : List Value} {x : α}, k.own w S cs x → ∀ b ∈ S, ∃ vs T fr, w.heap[b]? = some (.cells vs T fr) ∧ T ∈ Ts

theorem Kn.Ty.flat (vs : α → List Value) (n : Nat) (hl : ∀ x, (vs x).length = n) : (Kn.flat vs n hl).Ty [] := fun h b hb => by
  rw [h.1] at hb
  cases hb

theorem Kn.Ty.pair {k : Kn α} {m : Kn β} {A B C : List TypeId} (hk : k.Ty A) (hm : m.Ty B) (ha : ∀ t ∈ A, t ∈ C) (hb : ∀ t ∈ B, t ∈ C) : (k.pair m).Ty C := fun h b hb' => by
  obtain ⟨S1, S2, _, _, e, _, h1, h2, _⟩ := h
  rw [e] at hb'
  rcases List.mem_append.1 hb' with q | q
  · obtain ⟨vs, T, fr, h3, h4⟩ := hk h1 b q
    exact ⟨vs, T, fr, h3, ha _ h4⟩
  · obtain ⟨vs, T, fr, h3, h4⟩ := hm h2 b q
    exact ⟨vs, T, fr, h3, hb _ h4⟩

theorem Kn.Ty.owns {k : Kn α} {A : List TypeId} (hk : k.Ty A) {w : World} : ∀ {l : List α} {S : List Nat} {cs : List Value}, k.owns w S cs l → ∀ b ∈ S, ∃ vs T fr, w.heap[b]? = some (.cells vs T fr) ∧ T ∈ A
  | [], S, _, h, b, hb => by rw [h.1] at hb; cases hb
  | x :: l, S, _, ⟨S1, S2, _, _, e, _, h1, h2⟩, b, hb => by
    rw [e] at hb
    rcases List.mem_append.1 hb with h | h
    · exact hk h1 b h
    · exact hk.owns h2 b h

theorem Kn.Ty.row {T : TypeId} {k : Kn α} {A C : List TypeId} (hk : k.Ty A) (ha : ∀ t ∈ A, t ∈ C) (hT : T ∈ C) : (Kn.row T k).Ty C := fun h b hb => by
  obtain ⟨a, n, c, xs, S', e, h1, h2, h3, h4, h5⟩ := h
  rcases h5 with ⟨_, _, h⟩ | ⟨g, off, cur, ha', hh, hc, h⟩
  · rw [h] at hb; cases hb
  · rw [h] at hb
    rcases List.mem_cons.1 hb with rfl | hb
    · exact ⟨_, _, _, hh, hT⟩
    · obtain ⟨vs, T', fr, h6, h7⟩ := hk.owns h3 b hb
      exact ⟨vs, T', fr, h6, ha _ h7⟩

theorem Kn.Ty.notin {k : Kn α} {A : List TypeId} (hk : k.Ty A) {w : World} {S : List Nat} {cs : List Value} {x : α} (h : k.own w S cs x) {P : Nat} {vs : Array Value} {T : TypeId} {fr : Nat × Nat} (hP : w.heap[P]? = some (.cells vs T fr)) (hT : T ∉ A) : P ∉ S := fun hb => by
  obtain ⟨vs', T', fr', e, hT'⟩ := hk h P hb
  rw [hP] at e
  cases e
  exact hT hT'

/-- A drawn region's value that is of the call's own. -/
def HasK (k : Kn α) (x : α) (base : Nat) (q : Value) (u : World) : Prop := ∃ cs S, q = .agg cs.toArray ∧ k.own u S cs x ∧ ∀ b ∈ S, base ≤ b

theorem HasK.below {k : Kn α} {x : α} {base : Nat} {q : Value} {u u' : World} (h : HasK k x base q u) (hb : Below u.heap.size u u') : HasK k x base q u' := by
  obtain ⟨cs, S, e, ho, hs⟩ := h
  exact ⟨cs, S, e, k.ownBelow ho hb, hs⟩

/-- The same with a number, a bool or whatever behind it. -/
def HasT (k : Kn α) (x : α) (o : Value) (base : Nat) (q : Value) (u : World) : Prop := ∃ cs S, q = .tuple #[.agg cs.toArray, o] ∧ k.own u S cs x ∧ ∀ b ∈ S, base ≤ b

theorem HasT.below {k : Kn α} {x : α} {o : Value} {base : Nat} {q : Value} {u u' : World} (h : HasT k x o base q u) (hb : Below u.heap.size u u') : HasT k x o base q u' := by
  obtain ⟨cs, S, e, ho, hs⟩ := h
  exact ⟨cs, S, e, k.ownBelow ho hb, hs⟩

/-- From operation s on a variable of this type is there; behind t it holds a value of this kind of the call's own. -/
def MadeK (k : Kn α) (T : TypeId) (Z : Array Value) (s t base : Nat) (y : α) (listed : Array Bool) (x : Nat → Value) (u : World) : Prop :=
  (listed.getD t false = true → listed.getD s false = true) ∧
  (listed.getD s false = true → ∃ g, x s = .pointer (some ⟨g, 0, none⟩) ∧ base ≤ g ∧
    (listed.getD t false = false → u.heap[g]? = some (.cells Z T (0, 0))) ∧
    (listed.getD t false = true → ∃ cs S, u.heap[g]? = some (.cells cs.toArray T (0, 0)) ∧ k.own u S cs y ∧ g ∉ S ∧ ∀ b ∈ S, base ≤ b))

theorem MadeK.zero (k : Kn α) (T : TypeId) (Z : Array Value) (s t base : Nat) (y : α) (n : Nat) (x : Nat → Value) (u : World) : MadeK k T Z s t base y (Array.replicate n false) x u :=
  ⟨fun h => (by rw [getD_replicate_false] at h; cases h), fun h => by rw [getD_replicate_false] at h; cases h⟩

theorem MadeK.keep {k : Kn α} {T : TypeId} {Z : Array Value} {s t base : Nat} {y : α} {listed : Array Bool} {x : Nat → Value} {u u' : World} (h : MadeK k T Z s t base y listed x u) {i : Nat} (hs : i ≠ s) (ht : i ≠ t) (v : Value) (hb : Below u.heap.size u u') :
    MadeK k T Z s t base y (listed.setIfInBounds i true) (upd x i v) u' := by
  refine ⟨fun h1 => ?_, fun h1 => ?_⟩
  · rw [getD_set_ne false ht] at h1
    exact getD_set_true (h.1 h1)
  · rw [getD_set_ne false hs] at h1
    rw [getD_set_ne false ht]
    obtain ⟨g, e, hg, hz, hf⟩ := h.2 h1
    refine ⟨g, by rw [upd_other _ _ (Ne.symm hs)]; exact e, hg, fun h0 => keep_block hb (hz h0) (lt_of_block (hz h0)), fun h0 => ?_⟩
    obtain ⟨cs, S, hh, ho, hng, hbs⟩ := hf h0
    exact ⟨cs, S, keep_block hb hh (lt_of_block hh), k.ownBelow ho hb, hng, hbs⟩

theorem MadeK.new {k : Kn α} {T : TypeId} {Z : Array Value} {s t base : Nat} {y : α} {listed : Array Bool} {x : Nat → Value} {u : World} (h : MadeK k T Z s t base y listed x u) (hst : s ≠ t) (hs : listed.getD s false = false) (hb : base ≤ u.heap.size) :
    MadeK k T Z s t base y (listed.setIfInBounds s true) (upd x s (.pointer (some ⟨u.heap.size, 0, none⟩))) (u.alloc (.cells Z T)) := by
  have ht : listed.getD t false = false := by
    cases e : listed.getD t false with
    | false => rfl
    | true => have := h.1 e; rw [hs] at this; cases this
  refine ⟨fun h1 => ?_, fun _ => ⟨u.heap.size, by rw [upd_same], hb, fun _ => heap_alloc_new _ _, fun h1 => ?_⟩⟩
  · rw [getD_set_ne false hst, ht] at h1; cases h1
  · rw [getD_set_ne false hst, ht] at h1; cases h1

theorem MadeK.there {k : Kn α} {T : TypeId} {Z : Array Value} {s t base : Nat} {y : α} {listed : Array Bool} {x : Nat → Value} {u : World} (h : MadeK k T Z s t base y listed x u) (hs : listed.getD s false = true) (ht : listed.getD t false = false) :
    ∃ g, x s = .pointer (some ⟨g, 0, none⟩) ∧ base ≤ g ∧ u.heap[g]? = some (.cells Z T (0, 0)) := by
  obtain ⟨g, e, hg, hz, _⟩ := h.2 hs
  exact ⟨g, e, hg, hz ht⟩

theorem MadeK.fill {k : Kn α} {T : TypeId} {Z : Array Value} {s t base : Nat} {y : α} {listed : Array Bool} {x : Nat → Value} {u' : World} {g : Nat} {cs : List Value} {S : List Nat} {v : Value} (hst : s ≠ t) (hs : listed.getD s false = true) (ht : t < listed.size) (hx : x s = .pointer (some ⟨g, 0, none⟩)) (hg : base ≤ g)
    (hh : u'.heap[g]? = some (.cells cs.toArray T (0, 0))) (ho : k.own u' S cs y) (hng : g ∉ S) (hb : ∀ b ∈ S, base ≤ b) : MadeK k T Z s t base y (listed.setIfInBounds t true) (upd x t v) u' := by
  refine ⟨fun _ => getD_set_true hs, fun _ => ⟨g, by rw [upd_other _ _ hst]; exact hx, hg, fun h0 => ?_, fun _ => ⟨cs, S, hh, ho, hng, hb⟩⟩⟩
  rw [get_set_same false ht] at h0
  cases h0

theorem MadeK.full {k : Kn α} {T : TypeId} {Z : Array Value} {s t base : Nat} {y : α} {listed : Array Bool} {x : Nat → Value} {u : World} (h : MadeK k T Z s t base y listed x u) (hs : listed.getD s false = true) (ht : listed.getD t false = true) :
    ∃ g cs S, x s = .pointer (some ⟨g, 0, none⟩) ∧ base ≤ g ∧ u.heap[g]? = some (.cells cs.toArray T (0, 0)) ∧ k.own u S cs y ∧ g ∉ S ∧ ∀ b ∈ S, base ≤ b := by
  obtain ⟨g, e, hg, _, hf⟩ := h.2 hs
  obtain ⟨cs, S, hh, ho, hng, hb⟩ := hf ht
  exact ⟨g, cs, S, e, hg, hh, ho, hng, hb⟩

end Go.Proofs.YtfpfgaifhmgpiaaDoor

namespace Go.Proofs.YtfpfgaifhmgpiaaDoor
open Go.RowKit Go.PlainAid

set_option linter.unusedVariables false

/-- A cell: its symbols, and whether it is poisoned. -/
def cellK : Kn (List Int × Bool) := intsK.pair boolK

def cellsK : Kn (List (List Int × Bool)) := cellK.row 41

/-- An array: cells, ages, hits. -/
def arrK : Kn (List (List Int × Bool) × List Int × List Int) := cellsK.pair (intsK.pair intsK)

theorem cell_rd {w : World} {cs : List Value} {x : List Int × Bool} (h : cellK.rd w cs x) : ∃ a n c, cs = [.slice a n c, .bool x.2] ∧ intsK.rd w [.slice a n c] x.1 := by
  obtain ⟨c1, c2, rfl, h1, h2⟩ := h
  obtain ⟨a, n, c, rfl, _⟩ := intsK_shape h1
  obtain rfl : c2 = [.bool x.2] := h2
  exact ⟨a, n, c, rfl, h1⟩

theorem cell_own {w : World} {S : List Nat} {cs : List Value} {x : List Int × Bool} (h : cellK.own w S cs x) : ∃ a n c, cs = [.slice a n c, .bool x.2] ∧ intsK.own w S [.slice a n c] x.1 := by
  obtain ⟨S1, S2, c1, c2, rfl, rfl, h1, h2, _⟩ := h
  obtain ⟨a, n, c, rfl, _⟩ := intsK_shape (intsK.read h1)
  obtain ⟨rfl, rfl⟩ : S2 = [] ∧ c2 = [.bool x.2] := h2
  exact ⟨a, n, c, rfl, by rw [List.append_nil]; exact h1⟩

theorem cell_of {w : World} {S : List Nat} {a : Option Addr} {n c : Nat} {s : List Int} (p : Bool) (h : intsK.own w S [.slice a n c] s) : cellK.own w S [.slice a n c, .bool p] (s, p) :=
  ⟨S, [], [.slice a n c], [.bool p], by simp, rfl, h, ⟨rfl, rfl⟩, by simpa using intsK.nodup h⟩

end Go.Proofs.YtfpfgaifhmgpiaaDoor

namespace Go.Proofs.YtfpfgaifhmgpiaaDoor
open Go.RowKit Go.PlainAid

set_option linter.unusedVariables false

/-- A call that answers a struct of the call's own. -/
def GivesS {α : Type} (k : Kn α) (x : α) (w : World) (e : Ending) (w' : World) : Prop := ∃ cs S, e = .returned (.agg cs.toArray) ∧ k.own w' S cs x ∧ (∀ b ∈ S, w.heap.size ≤ b) ∧ Below w.heap.size w w'

theorem Kn.ownSet {α : Type} (k : Kn α) {w : World} {S : List Nat} {cs : List Value} {x : α} (h : k.own w S cs x) {p : Addr} (hp : ∀ b ∈ S, b ≠ p.block) (v : Value) : k.own (w.setCell p v) S cs x :=
  k.same h (fun b hb => Below.heap_setCell _ _ _ _ (hp b hb))

theorem infoCell : (Tryd.prog.info? 41).map (fun i => (i.zero, i.size, i.bytes)) = some (some (.agg #[.slice none 0 0, .bool false]), 2, 32) := by kernel_rfl

end Go.Proofs.YtfpfgaifhmgpiaaDoor

namespace Go.Proofs.YtfpfgaifhmgpiaaDoor
open Go.RowKit Go.PlainAid

set_option linter.unusedVariables false

theorem cells_shape {w : World} {cs : List Value} {l : List (List Int × Bool)} (h : cellsK.rd w cs l) : ∃ a n c, cs = [.slice a n c] := by
  obtain ⟨a, n, c, xs, e, _⟩ := h
  exact ⟨a, n, c, e⟩

theorem arr_rd {w : World} {cs : List Value} {x : List (List Int × Bool) × List Int × List Int} (h : arrK.rd w cs x) :
    ∃ a0 n0 c0 a1 n1 c1 a2 n2 c2, cs = [.slice a0 n0 c0, .slice a1 n1 c1, .slice a2 n2 c2] ∧ cellsK.rd w [.slice a0 n0 c0] x.1 ∧ intsK.rd w [.slice a1 n1 c1] x.2.1 ∧ intsK.rd w [.slice a2 n2 c2] x.2.2 := by
  obtain ⟨d0, d1, rfl, h0, d2, d3, rfl, h1, h2⟩ := h
  obtain ⟨a0, n0, c0, rfl⟩ := cells_shape h0
  obtain ⟨a1, n1, c1, rfl, _⟩ := intsK_shape h1
  obtain ⟨a2, n2, c2, rfl, _⟩ := intsK_shape h2
  exact ⟨a0, n0, c0, a1, n1, c1, a2, n2, c2, rfl, h0, h1, h2⟩

theorem arr_own {w : World} {S : List Nat} {cs : List Value} {x : List (List Int × Bool) × List Int × List Int} (h : arrK.own w S cs x) :
    ∃ a0 n0 c0 a1 n1 c1 a2 n2 c2 S0 S1 S2, cs = [.slice a0 n0 c0, .slice a1 n1 c1, .slice a2 n2 c2] ∧ S = S0 ++ (S1 ++ S2) ∧ S.Nodup ∧ cellsK.own w S0 [.slice a0 n0 c0] x.1 ∧ intsK.own w S1 [.slice a1 n1 c1] x.2.1 ∧ intsK.own w S2 [.slice a2 n2 c2] x.2.2 := by
  have hn := arrK.nodup h
  obtain ⟨S0, S', d0, d1, rfl, rfl, h0, ⟨S1, S2, d2, d3, rfl, rfl, h1, h2, _⟩, _⟩ := h
  obtain ⟨a0, n0, c0, rfl⟩ := cells_shape (cellsK.read h0)
  obtain ⟨a1, n1, c1, rfl, _⟩ := intsK_shape (intsK.read h1)
  obtain ⟨a2, n2, c2, rfl, _⟩ := intsK_shape (intsK.read h2)
  exact ⟨a0, n0, c0, a1, n1, c1, a2, n2, c2, S0, S1, S2, rfl, rfl, hn, h0, h1, h2⟩

theorem arr_of {w : World} {S0 S1 S2 : List Nat} {v0 v1 v2 : Value} {x : List (List Int × Bool)} {y z : List Int} (h0 : cellsK.own w S0 [v0] x) (h1 : intsK.own w S1 [v1] y) (h2 : intsK.own w S2 [v2] z) (hn : (S0 ++ (S1 ++ S2)).Nodup) :
    arrK.own w (S0 ++ (S1 ++ S2)) [v0, v1, v2] (x, y, z) :=
  ⟨S0, S1 ++ S2, [v0], [v1, v2], rfl, rfl, h0, ⟨S1, S2, [v1], [v2], rfl, rfl, h1, h2, (List.nodup_append.1 hn).2.1⟩, hn⟩

theorem nodup3 {A B C : List Nat} (h : (A ++ (B ++ C)).Nodup) : (∀ b ∈ A, b ∉ B ∧ b ∉ C) ∧ (∀ b ∈ B, b ∉ A ∧ b ∉ C) ∧ (∀ b ∈ C, b ∉ A ∧ b ∉ B) := by
  rw [List.nodup_append, List.nodup_append] at h
  obtain ⟨h1, ⟨h2, h3, h4⟩, h5⟩ := h
  have q1 : ∀ b ∈ A, b ∉ B := fun b hb hb' => h5 b hb b (List.mem_append_left _ hb') rfl
  have q2 : ∀ b ∈ A, b ∉ C := fun b hb hb' => h5 b hb b (List.mem_append_right _ hb') rfl
  have q3 : ∀ b ∈ B, b ∉ C := fun b hb hb' => h4 b hb b hb' rfl
  exact ⟨fun b hb => ⟨q1 b hb, q2 b hb⟩, fun b hb => ⟨fun h => q1 b h hb, q3 b hb⟩, fun b hb => ⟨fun h => q2 b h hb, fun h => q3 b h hb⟩⟩

theorem nodup_of {A B C : List Nat} (hA : A.Nodup) (hB : B.Nodup) (hC : C.Nodup) (h1 : ∀ b ∈ B, b ∉ A) (h2 : ∀ b ∈ C, b ∉ A) (h3 : ∀ b ∈ C, b ∉ B) : (A ++ (B ++ C)).Nodup := by
  rw [List.nodup_append, List.nodup_append]
  refine ⟨hA, ⟨hB, hC, fun a ha b hb e => h3 b hb (e ▸ ha)⟩, fun a ha b hb e => ?_⟩
  rcases List.mem_append.1 hb with h | h
  · exact h1 b h (e ▸ ha)
  · exact h2 b h (e ▸ ha)

end Go.Proofs.YtfpfgaifhmgpiaaDoor

namespace Go.Proofs.YtfpfgaifhmgpiaaDoor
open Go.RowKit Go.PlainAid

set_option linter.unusedVariables false

theorem symOk_no {l : List Int} {m : Int} {k : Nat} (hk : k < l.length) (h : ¬ El (l.getD k 0)) : decide (SymOk l m) = false :=
  decide_eq_false fun q => h (el_getD q.1 hk)

theorem symOk_all {l : List Int} {m : Int} (h : Els l) : decide (SymOk l m) = ((l.length : Int) == m) := by
  by_cases e : (l.length : Int) = m
  · rw [decide_eq_true (show SymOk l m from ⟨h, e⟩)]; simpa using e
  · rw [decide_eq_false (fun q : SymOk l m => e q.2)]; simpa using e

set_option maxHeartbeats 1000000 in
set_option maxRecDepth 100000 in
theorem specSymbolsOk_is {a : Option Addr} {c n : Nat} {l : List Int} {m : Int} (hn : l.length = n) {w : World} (h : RowI w a l) (v : Bool) (hv : decide (SymOk l m) = v) (hl : (n : Int) ≤ 9223372036854775807) :
    Calls Tryd.prog 85 #[.slice a n c, .int .i64 m] w (Says (.bool v) w) := by
  have HN := Lib.hid hn
  have HA := Lib.hid h
  have HV := Lib.hid hv
  clear hn h hv
  go_enter Tryd.func85, Tryd.ntmps85
  go_wp2_with fail
  go_loopw [5] (fun i wr => ∃ k : Nat, k ≤ n ∧ i = .int .i64 k ∧ Els (l.take k) ∧ wr = w) (fun i _ => n - (intOf i).toNat)
  case atStart => exact ⟨0, Nat.zero_le _, rfl, (fun v hv => by cases hv), rfl⟩
  case round =>
    obtain ⟨k, hk, rfl, hels, rfl⟩ := hrel
    have HE := Lib.hid hels
    clear hels
    by_cases hlt : k < n
    · obtain ⟨ga, oa, rfl, hca⟩ := HA.out.at (k := k) (by rw [HN.out]; exact hlt)
      obtain ⟨x, hx⟩ : ∃ x, l.getD k 0 = x := ⟨_, rfl⟩
      rw [hx] at hca
      by_cases he : El x
      · have HS := Lib.hid (els_take (by rw [HN.out]; exact hlt) HE.out (hx ▸ he))
        have KA := Lib.hid (decide_eq_true he)
        clear hx he
        go_wp2_with fail
        refine (specIs_is x true KA.out _).mono ?_
        rintro e w2 ⟨rfl, rfl⟩
        go_wp2_with fail
        go_roundw
        case rel => exact ⟨k + 1, by omega, by go_num, HS.out, by trivial⟩
        case measure => simp [intOf]; omega
      · have HF : Hid (false = v) := by show _ = _; rw [← HV.out]; exact (symOk_no (by rw [HN.out]; exact hlt) (hx ▸ he)).symm
        have KA := Lib.hid (decide_eq_false he)
        clear hx he
        go_wp2_with fail
        refine (specIs_is x false KA.out _).mono ?_
        rintro e w2 ⟨rfl, rfl⟩
        go_wp2_with fail
        go_ret
        exact ⟨ret_b HF.out, rfl⟩
    · obtain rfl : k = n := by omega
      have HF : Hid (((k : Int) == m) = v) := by
        show _ = _
        rw [← HV.out, symOk_all (by have := HE.out; rwa [List.take_of_length_le (by rw [HN.out]; omega)] at this), HN.out]
      go_wp2_with fail
      go_ret
      exact ⟨ret_b HF.out, rfl⟩

/-- The three sums behind so many symbols, and so many of the next one. -/
def sumsV (u : List Nat) (k t : Nat) : List Int := [((syn 0 (u.take (if 0 < t then k + 1 else k)) : Nat) : Int), ((syn 1 (u.take (if 1 < t then k + 1 else k)) : Nat) : Int), ((syn 2 (u.take (if 2 < t then k + 1 else k)) : Nat) : Int)]

theorem sumsV_length (u : List Nat) (k t : Nat) : (sumsV u k t).length = 3 := rfl

theorem sumsV_next (u : List Nat) (k : Nat) : sumsV u k 3 = sumsV u (k + 1) 0 := by simp [sumsV]

theorem sumsV_getD (u : List Nat) (k : Nat) {t : Nat} (ht : t < 3) : (sumsV u k t).getD t 0 = ((syn t (u.take k) : Nat) : Int) := by
  match t, ht with
  | 0, _ => simp [sumsV]
  | 1, _ => simp [sumsV]
  | 2, _ => simp [sumsV]

theorem sumsV_set (u : List Nat) (k : Nat) {t : Nat} (ht : t < 3) (hk : k < u.length) :
    (sumsV u k t).set t (((syn t (u.take k)) ^^^ gm u[k] (cw t k) : Nat) : Int) = sumsV u k (t + 1) := by
  rw [← syn_take t hk]
  match t, ht with
  | 0, _ => simp [sumsV]
  | 1, _ => simp [sumsV]
  | 2, _ => simp [sumsV]

set_option maxHeartbeats 2000000 in
set_option maxRecDepth 100000 in
theorem specSyndromes_is {a : Option Addr} {c n : Nat} {l : List Int} (hn : l.length = n) {w : World} (h : RowI w a l) (v : List Int) (hv : syns l = v) (hl : (n : Int) ≤ 9223372036854775807) :
    Calls Tryd.prog 86 #[.slice a n c] w (GivesI v w) := by
  have HN := Lib.hid hn
  have HA := Lib.hid h
  have HV := Lib.hid hv
  clear hn h hv
  by_cases hok : SymOk l 11
  case neg =>
    have KA := Lib.hid (decide_eq_false hok)
    obtain rfl : v = [] := by rw [← HV.out]; exact if_neg hok
    clear hok
    go_enter Tryd.func86, Tryd.ntmps86
    go_wp2_with fail
    refine (specSymbolsOk_is HN.out HA.out false KA.out hl).mono ?_
    rintro e w2 ⟨rfl, rfl⟩
    go_wp2_with fail
    go_ret
    exact givesI_empty rfl (Nat.le_refl _) (by show (w.heap.push _)[w.heap.size]? = _; simp) ((Below.refl _ _).alloc (Nat.le_refl _) _)
  have KA := Lib.hid (decide_eq_true hok)
  obtain rfl : n = 11 := by have := hok.2; have := HN.out; omega
  obtain ⟨u, hu⟩ : ∃ u, nats l = u := ⟨_, rfl⟩
  have HU := Lib.hid hu
  have HLT : Hid (Lt16 u) := by show Lt16 u; rw [← hu]; exact nats_lt hok.1
  have hul : u.length = 11 := by rw [← hu, nats_length]; exact HN.out
  have HUL := Lib.hid hul
  have HE := Lib.hid hok.1
  have HF : Hid (sumsV u 11 0 = v) := by
    show _ = _
    rw [← HV.out, syns, if_pos hok, hu, sumsV]
    simp [List.take_of_length_le (Nat.le_of_eq hul)]
  obtain ⟨i0, hi, hz0, hz1, hz2⟩ := info_parts infoI
  clear hok hu hul
  go_enter Tryd.func86, Tryd.ntmps86
  go_wp2_with fail
  refine (specSymbolsOk_is HN.out HA.out true KA.out hl).mono ?_
  rintro e w2 ⟨rfl, rfl⟩
  go_wp2_with (at_make; refine wpList_make_full _ rfl _ _ 29 rfl w.heap.size 3 i0 (.int .i64 0) 1 Tryd.underlying29 hi hz0 hz1 _ _ _ _ 3 rfl rfl rfl rfl (by rw [hz2]; omega) (by unfold maxLen; omega) (Nat.le_refl _) ?_)
  intro w1 hown hgr
  have hb1 : Below w.heap.size w w1 := (Below.refl _ _).grown hgr (Nat.le_refl _) (fun k hk => by cases hk)
  have HO1 : Hid (OwnI w.heap.size (.slice (some ⟨w.heap.size, 0, none⟩) 3 3) (sumsV u 0 0) w1) := by
    show OwnI _ _ _ _
    unfold OwnI
    rw [made_one] at hown
    exact hown
  have HB1 := Lib.hid hb1
  clear hgr hown hb1
  go_wp2_with fail
  go_loopw [4] (fun i wr => ∃ k : Nat, k ≤ 11 ∧ i = .int .i64 k ∧ OwnI w.heap.size (.slice (some ⟨w.heap.size, 0, none⟩) 3 3) (sumsV u k 0) wr ∧ Below w.heap.size w wr) (fun i _ => 11 - (intOf i).toNat)
  case atStart => exact ⟨0, Nat.zero_le _, rfl, HO1.out, HB1.out⟩
  case round =>
    obtain ⟨k, hk, rfl, hown, hbr⟩ := hrel
    have HO := Lib.hid hown
    have HBR := Lib.hid hbr
    clear hown hbr
    by_cases hlt : k < 11
    · have HP : Hid (gfPow 2 (k : Int) = ((gp 2 k : Nat) : Int)) := gfPow_nat (a := 2) (by omega) (by omega)
      obtain ⟨y, hy⟩ : ∃ y, gp 2 k = y := ⟨_, rfl⟩
      rw [hy] at HP
      have HY := Lib.hid hy
      clear hy
      go_wp2_with fail
      refine (specGfPow_is 2 (k : Int) _ HP.out _).mono ?_
      rintro e w3 ⟨rfl, rfl⟩
      go_wp2_with fail
      go_loopw [5, 7] (fun f j wi => ∃ t : Nat, t ≤ 3 ∧ j = .int .i64 t ∧ f = .int .i64 ((gp y t : Nat) : Int) ∧ OwnI w.heap.size (.slice (some ⟨w.heap.size, 0, none⟩) 3 3) (sumsV u k t) wi ∧ Below w.heap.size w wi) (fun _ j _ => 3 - (intOf j).toNat)
      case atStart => exact ⟨0, Nat.zero_le _, rfl, rfl, HO.out, HBR.out⟩
      case round =>
        obtain ⟨t, ht, rfl, rfl, hown, hbi⟩ := hrel
        have HI := Lib.hid hown
        have HBI := Lib.hid hbi
        clear hown hbi
        by_cases hlt3 : t < 3
        · obtain ⟨g, hg, hc, hf, hB, hgs⟩ := HI.out.at (k := t) (by rw [sumsV_length]; exact hlt3)
          obtain rfl : w.heap.size = g := by simpa using hg
          obtain ⟨ga, oa, rfl, hca⟩ := (HA.out.below HBI.out).at (k := k) (by rw [HN.out]; exact hlt)
          have hku : k < u.length := by rw [HUL.out]; exact hlt
          obtain ⟨X, hX⟩ : ∃ X, u[k] = X := ⟨_, rfl⟩
          obtain ⟨S, hS⟩ : ∃ S, syn t (u.take k) = S := ⟨_, rfl⟩
          obtain ⟨F, hF⟩ : ∃ F, gp y t = F := ⟨_, rfl⟩
          have hy : y < 16 := by rw [← HY.out]; exact gp_lt (by omega) k
          have hXl : X < 16 := by rw [← hX]; exact HLT.out _ (List.getElem_mem hku)
          have hSl : S < 16 := by rw [← hS]; exact syn_lt t fun v hv => HLT.out v (List.mem_of_mem_take hv)
          have hFl : F < 16 := by rw [← hF]; exact gp_lt hy t
          have hcX : wr.cell? ⟨ga, oa + k, none⟩ = some (.int .i64 (X : Int)) := by
            rw [hca, nats_getD HE.out (by rw [HN.out]; exact hlt), HU.out, List.getD_eq_getElem?_getD, List.getElem?_eq_getElem hku, hX]
            rfl
          have hcS : wr.cell? ⟨w.heap.size, t, none⟩ = some (.int .i64 (S : Int)) := by
            rw [hc, ← hS, ← sumsV_getD u k hlt3, List.getD_eq_getElem?_getD, List.getElem?_eq_getElem (by rw [sumsV_length]; exact hlt3)]
            rfl
          have HM : Hid (gfMul (X : Int) (F : Int) = ((gm X F : Nat) : Int)) := gfMul_nat hXl hFl
          have HM2 : Hid (gfMul (F : Int) (y : Int) = ((gm F y : Nat) : Int)) := gfMul_nat hFl hy
          have hG : gm X F < 16 := gm_lt hXl hFl
          obtain ⟨G, hGe⟩ : ∃ G, gm X F = G := ⟨_, rfl⟩
          rw [hGe] at HM hG
          have hxor : bits .xor .i64 (S : Int) (G : Int) = ((S ^^^ G : Nat) : Int) := i64_xor_nat S G (by omega) (by omega)
          have HSET : Hid ((sumsV u k t).set t ((S ^^^ G : Nat) : Int) = sumsV u k (t + 1)) := by
            show _ = _
            rw [← sumsV_set u k hlt3 hku, hX, hS, ← hGe, ← hF]
            show _ = List.set _ _ ((S ^^^ gm X (gp (gp 2 k) t) : Nat) : Int)
            rw [HY.out]
          have HNX : Hid (gp y (t + 1) = gm F y) := by show gm (gp y t) y = _; rw [hF]
          rw [hF]
          have z0 := fun q : Later wr => q.cell hcX
          have z1 := fun q : Later wr => q.cell hcS
          clear hc hf hca hg hX hS hF hGe hXl hSl hFl hG hB
          go_wp2_with fail
          refine wp_region_later_tail 14 (by kernel_rfl) (by kernel_rfl) ?_
          simp only [List.take_succ_cons, List.take_zero, List.drop_succ_cons, List.drop_zero]
          repeat (go_big_quiet_step (first | (go_at_call 89; exact Gives.later_same _ (specGfMul_is _ _ _ HM.out _))))
          refine wpQuiet_nil ?_
          rintro w3 ⟨zz, hz⟩
          have hb3 : Below wr.heap.size wr w3 := hz ▸ zz.ok
          have O3 := Lib.hid (HI.out.below hb3)
          have HB3 : Hid (Below w.heap.size w w3) := HBI.out.trans (hb3.mono (by omega))
          obtain ⟨g', hg', hc3, hf3, _, _⟩ := O3.out.at (k := t) (by rw [sumsV_length]; exact hlt3)
          obtain rfl : w.heap.size = g' := by simpa using hg'
          obtain ⟨old, hco⟩ : ∃ u, w3.cell? ⟨w.heap.size, t, none⟩ = some u := ⟨_, hc3⟩
          clear z0 z1 hz zz hb3 hcX hcS hc3 hg'
          go_wp2_with fail
          refine (specGfMul_is (F : Int) (y : Int) _ HM2.out _).mono ?_
          rintro e w4 ⟨rfl, rfl⟩
          have R2 : Hid (OwnI w.heap.size (.slice (some ⟨w.heap.size, 0, none⟩) 3 3) (sumsV u k (t + 1)) (w3.setCell ⟨w.heap.size, t, none⟩ (.int .i64 ((S ^^^ G : Nat) : Int)))) := by
            show OwnI _ _ _ _
            rw [← HSET.out]
            exact O3.out.stored (sumsV_length u k t) t _
          have HB4 : Hid (Below w.heap.size w (w3.setCell ⟨w.heap.size, t, none⟩ (.int .i64 ((S ^^^ G : Nat) : Int)))) := HB3.out.setCell (Nat.le_refl _) _
          go_wp2_with fail
          go_roundw
          case rel => exact ⟨t + 1, by omega, by go_num, by rw [HNX.out], R2.out, HB4.out⟩
          case measure => simp [intOf]; omega
        · obtain rfl : t = 3 := by omega
          go_wp2_with fail
          go_roundw
          case rel => exact ⟨k + 1, by omega, by go_num, by rw [← sumsV_next]; exact HI.out, HBI.out⟩
          case measure => simp [intOf]; omega
    · obtain rfl : k = 11 := by omega
      go_wp2_with fail
      go_ret
      exact ⟨some ⟨w.heap.size, 0, none⟩, 3, by rw [← HF.out]; rfl, by rw [← HF.out]; exact HO.out, HBR.out⟩

end Go.Proofs.YtfpfgaifhmgpiaaDoor

namespace Go.Proofs.YtfpfgaifhmgpiaaDoor
open Go.RowKit Go.PlainAid

set_option linter.unusedVariables false

/-- A call that answers a row of numbers of its own, anywhere in its block. -/
def GivesJ (n : Nat) (l : List Int) (w : World) (e : Ending) (w' : World) : Prop :=
  ∃ a c, e = .returned (.slice a n c) ∧ n ≤ c ∧ OwnJ w.heap.size (.slice a n c) l w' ∧ Below w.heap.size w w'

theorem dataI_le (w : List Int) : (dataI w).length ≤ 11 := by
  unfold dataI
  split
  · rename_i h
    have := h.2
    rw [List.length_drop]
    omega
  · simp

theorem corW_le (w : List Int) : (corW w).1.length ≤ 11 := by
  by_cases h : SymOk w 11
  · have h11 := h.2
    have : (corW w).1.length = w.length := by
      unfold corW
      rw [if_pos h]
      show (ints (correct (nats w)).1).length = _
      rw [ints_length]
      unfold correct
      split
      · exact nats_length w
      · split
        · exact nats_length w
        · show ((nats w).set _ _).length = _
          rw [List.length_set]; exact nats_length w
    omega
  · have : corW w = ([], 2, -1) := if_neg h
    rw [this]
    simp

def ISymbolsOk : Prop := ∀ (a : Option Addr) (n c : Nat) (l : List Int) (m : Int) (v : Bool) (hv : decide (SymOk l m) = v) (hn : l.length = n) (hl : n ≤ 3000000) (hc : n ≤ c) (w : World) (h : RowI w a l), Calls Tryd.prog 83 #[.slice a n c, .int .i64 m] w (Gives (.bool v) w)

end Go.Proofs.YtfpfgaifhmgpiaaDoor

namespace Go.Proofs.YtfpfgaifhmgpiaaDoor
open Go.RowKit Go.PlainAid

set_option linter.unusedVariables false

set_option maxHeartbeats 1000000 in
set_option maxRecDepth 100000 in
theorem specZero_is {a : Option Addr} {c : Nat} {x y z : Int} {w : World} (h : RowI w a [x, y, z]) (v : Bool) (hv : decide (x = 0 ∧ y = 0 ∧ z = 0) = v) :
    Calls Tryd.prog 87 #[.slice a 3 c] w (Says (.bool v) w) := by
  rcases h with h0 | ⟨g, o, rfl, hc⟩
  · cases h0
  have c0 : w.cell? ⟨g, o + 0, none⟩ = some (.int .i64 x) := hc 0 (by simp)
  have c0' : w.cell? ⟨g, o, none⟩ = some (.int .i64 x) := hc 0 (by simp)
  have c1 : w.cell? ⟨g, o + 1, none⟩ = some (.int .i64 y) := hc 1 (by simp)
  have c2 : w.cell? ⟨g, o + 2, none⟩ = some (.int .i64 z) := hc 2 (by simp)
  clear hc
  have HV := Lib.hid hv
  clear hv
  by_cases hx : x = 0
  · by_cases hy : y = 0
    · have tz : ((z == 0) : Bool) = v := by rw [← HV.out]; subst hx hy; simp; rfl
      subst hx hy
      clear HV
      go_enter Tryd.func87, Tryd.ntmps87
      go_wp2_with fail
      go_ret
      exact ⟨rfl, rfl⟩
    · have ty : ((y == 0) : Bool) = false := by simpa using hy
      obtain rfl : v = false := by rw [← HV.out]; exact decide_eq_false fun q => hy q.2.1
      subst hx
      clear HV hy
      go_enter Tryd.func87, Tryd.ntmps87
      go_wp2_with fail
      go_ret
      exact ⟨rfl, rfl⟩
  · have tx : ((x == 0) : Bool) = false := by simpa using hx
    obtain rfl : v = false := by rw [← HV.out]; exact decide_eq_false fun q => hx q.1
    clear HV hx
    go_enter Tryd.func87, Tryd.ntmps87
    go_wp2_with fail
    go_ret
    exact ⟨rfl, rfl⟩

theorem zero_syns {u : List Nat} : decide (((syn 0 u : Nat) : Int) = 0 ∧ ((syn 1 u : Nat) : Int) = 0 ∧ ((syn 2 u : Nat) : Int) = 0) = decide (Zero3 u) := by
  apply decide_eq_decide.mpr
  unfold Zero3
  omega

theorem row_drop {w : World} {g o : Nat} {l : List Int} (k : Nat) (h : RowI w (some ⟨g, o, none⟩) l) : RowI w (some ⟨g, o + k, none⟩) (l.drop k) := by
  rcases h with h | ⟨g', o', he, hc⟩
  · left; rw [h]; simp
  · cases he
    refine .inr ⟨g, o + k, rfl, fun i hi => ?_⟩
    rw [List.length_drop] at hi
    have := hc (k + i) (by omega)
    rw [Nat.add_assoc, this]
    simp [List.getD_eq_getElem?_getD]

set_option maxHeartbeats 1000000 in
set_option maxRecDepth 100000 in
theorem specDataOf_is {a : Option Addr} {c n : Nat} {l : List Int} (hn : l.length = n) (hcap : n ≤ c) {w : World} (h : RowI w a l) (v : List Int) (hv : dataI l = v) (hl : (n : Int) ≤ 9223372036854775807) :
    Calls Tryd.prog 50 #[.slice a n c] w (GivesI v w) := by
  have HN := Lib.hid hn
  have HA := Lib.hid h
  have HV := Lib.hid hv
  clear hn h hv
  by_cases hok : SymOk l 11
  case neg =>
    have KA := Lib.hid (decide_eq_false hok)
    obtain rfl : v = [] := by rw [← HV.out]; exact if_neg hok
    clear hok
    go_enter Tryd.func50, Tryd.ntmps50
    go_wp2_with fail
    refine (specSymbolsOk_is HN.out HA.out false KA.out hl).mono ?_
    rintro e w2 ⟨rfl, rfl⟩
    go_wp2_with fail
    go_ret
    exact givesI_empty rfl (Nat.le_refl _) (by show (w.heap.push _)[w.heap.size]? = _; simp) ((Below.refl _ _).alloc (Nat.le_refl _) _)
  have KA := Lib.hid (decide_eq_true hok)
  obtain rfl : n = 11 := by have := hok.2; have := HN.out; omega
  obtain rfl : v = l.drop 3 := by rw [← HV.out]; exact if_pos hok
  obtain ⟨g, o, rfl, _⟩ := HA.out.at (k := 0) (by rw [HN.out]; omega)
  have HD := Lib.hid (row_drop 3 HA.out)
  have HDL : Hid ((l.drop 3).length = 8) := by show _ = _; rw [List.length_drop, HN.out]
  clear hok HV
  go_enter Tryd.func50, Tryd.ntmps50
  go_wp2_with fail
  refine (specSymbolsOk_is HN.out HA.out true KA.out hl).mono ?_
  rintro e w2 ⟨rfl, rfl⟩
  have hb3 : Below w.heap.size w (w.alloc (.cells #[] 3)) := (Below.refl _ _).alloc (Nat.le_refl _) _
  have own3 : OwnI w.heap.size (.slice (some ⟨w.heap.size, 0, none⟩) 0 0) [] (w.alloc (.cells #[] 3)) := World.ownsRow_made (base := w.heap.size) (e := 3) (size := 1) w #[] 0 (Nat.le_refl _) (by decide) rfl
  have HR3 := Lib.hid (HD.out.below hb3)
  have hS3 : w.heap.size ≤ (w.alloc (.cells #[] 3)).heap.size := by simp
  go_wp2_with (at_builtin; refine append_int rfl _ _ rfl w.heap.size _ 0 [] rfl own3 rfl (some ⟨g, o + 3, none⟩) 8 (c - 3) (l.drop 3) rfl HDL.out (fun h => by cases h) HR3.out (by omega) hS3 ?_)
  intro v' w4 hown4 hgrow _
  (try rw [List.nil_append] at hown4)
  have HB4 : Hid (Below w.heap.size w w4) := hb3.grown hgrow hS3 (fun j hj => by have := Option.some.inj hj; have h2 : w.heap.size = j := this; omega)
  obtain ⟨aa, cc, hv⟩ := hown4.shape
  subst hv
  have HO4 := Lib.hid hown4
  clear hown4 hgrow own3 hb3
  go_wp2_with fail
  go_ret
  exact ⟨aa, cc, rfl, HO4.out, HB4.out⟩

end Go.Proofs.YtfpfgaifhmgpiaaDoor

namespace Go.Proofs.YtfpfgaifhmgpiaaDoor
open Go.RowKit Go.PlainAid

set_option linter.unusedVariables false

theorem OwnI.cap_le {B n c : Nat} {a : Option Addr} {l : List Int} {w : World} (h : OwnI B (.slice a n c) l w) (hn : l.length = n) : n ≤ c := by
  rcases h.2 with ⟨hv, h0⟩ | ⟨g, cap, cur, hv, hB, hh, h1, _, _, _⟩
  · cases hv; omega
  · cases hv; simp_all

end Go.Proofs.YtfpfgaifhmgpiaaDoor

namespace Go.Proofs.YtfpfgaifhmgpiaaDoor
open Go.RowKit Go.PlainAid

set_option linter.unusedVariables false

/-- The data of an array. -/
abbrev Arr := List (List Int × Bool) × List Int × List Int

def AgeOk (v : Int) : Prop := 0 ≤ v ∧ v ≤ 100000

instance (v : Int) : Decidable (AgeOk v) := inferInstanceAs (Decidable (_ ∧ _))

/-- A valid array of a geometry. -/
def ArrOk (ga gb gr gd : Int) (x : Arr) : Prop :=
  GeoOk ga gb gr gd ∧ (x.1.length : Int) = lineN ga gb gr gd ∧ (x.2.1.length : Int) = bankN ga gb gr gd * gr ∧ x.2.2.length = x.2.1.length ∧ (∀ c ∈ x.1, SymOk c.1 11) ∧ (∀ v ∈ x.2.1, AgeOk v) ∧ (∀ v ∈ x.2.2, AgeOk v)

instance (ga gb gr gd : Int) (x : Arr) : Decidable (ArrOk ga gb gr gd x) := inferInstanceAs (Decidable (_ ∧ _))

theorem rowsN_range {a b c d : Int} (h : GeoOk a b c d) : 0 ≤ bankN a b c d * c ∧ bankN a b c d * c ≤ 128 := by
  have h1 := bankN_range a b c d
  obtain ⟨_, _, ⟨h2, h3⟩, h4, h5⟩ := h
  have e1 : 0 ≤ bankN a b c d * c := Int.mul_nonneg h1.1 (by omega)
  have e2 : bankN a b c d * c ≤ 8 * 16 := Int.mul_le_mul h1.2 h3 (by omega) (by omega)
  exact ⟨e1, by omega⟩

theorem all_take {β : Type} {P : β → Prop} {l : List β} {k : Nat} (hk : k < l.length) (h : ∀ v ∈ l.take k, P v) (he : P l[k]) : ∀ v ∈ l.take (k + 1), P v := by
  rw [List.take_succ_eq_append_getElem hk]
  intro v hv
  rcases List.mem_append.mp hv with h1 | h1
  · exact h v h1
  · rw [List.mem_singleton.mp h1]; exact he

end Go.Proofs.YtfpfgaifhmgpiaaDoor

namespace Go.Proofs.YtfpfgaifhmgpiaaDoor
open Go.RowKit Go.PlainAid

set_option linter.unusedVariables false

theorem run_append_empty {P : Program} (w : World) (base : Nat) (t ty e : TypeId) (i : TypeInfo) (z : Value) (size bytes : Nat) (ht : P.underlying t = some (.slice e)) (hi : P.info? e = some i) (hz : i.zero = some z)
    (hsize : i.size = size) (hby : i.bytes = bytes) (hzs : z.cells.size = size) (hsz : 0 < size)
    (g : Nat) (hbg : base ≤ g) (hg : w.heap[g]? = some (.cells #[] e (0, 0)))
    (a : Addr) (m c : Nat) (news : List Value) (hl : news.length = m * size) (hnews : ∀ j u, news[j]? = some u → w.cell? (a.add j) = some u) (h1 : ∀ u ∈ news, u.oneCell' = true)
    (h63 : m ≤ maxLen) (hbytes : m * bytes ≤ 140737488355328) (hbase : base ≤ w.heap.size) :
    ∃ v' w', (Builtin.append_ #[t, t] ty #[.slice (some ⟨g, 0, none⟩) 0 0, .slice (some a) m c]).run P w = .ok v' w' ∧ w'.ownsRow base e size v' m news ∧ Below w.heap.size w w' ∧
      ((v'.ownBlock = some g ∧ m = 0) ∨ v'.ownBlock = some w.heap.size) := by
  have hown : w.ownsRow base e size (.slice (some ⟨g, 0, none⟩) 0 0) 0 [] := ⟨by simp, .inr ⟨g, 0, #[], rfl, hbg, hg, Nat.le_refl _, Nat.zero_le _, by simp, by simp⟩⟩
  obtain ⟨v', w', hr, h2, h3, h4, h5⟩ := run_append_own_at (P := P) w base t ty e i z size bytes ht hi hz hsize hby hzs hsz _ 0 [] hown a m c news hl hnews h1 (by omega) (by simpa using hbytes) hbase
  rw [Nat.zero_add, List.nil_append] at h2
  subst hsize
  subst hby
  by_cases hm : m = 0
  · refine ⟨v', w', hr, h2, ?_, h5.imp (fun h => ⟨h, hm⟩) id⟩
    subst hm
    have hn : news = [] := List.eq_nil_of_length_eq_zero (by simpa using hl)
    subst hn
    have hr2 := run_append_room (P := P) w t ty e i ht hi g 0 0 #[] hg a 0 c [] (by simp) (by intro j u hu; simp at hu) (by intro u hu; cases hu) (Nat.le_refl _) (by simp)
    rw [hr] at hr2
    injection hr2 with e1 e2
    subst e2
    refine ⟨rfl, rfl, rfl, by simp [World.setRow], fun k hk => ?_⟩
    by_cases hkg : k = g
    · subst hkg
      rw [setRow_heap w k #[] _ e _ hg, hg]
      simp
    · exact setRow_other w g k _ hkg
  · have hsmall : m ≤ 9223372036854775807 := by simp only [maxLen] at h63; omega
    have hr2 := run_append_grow (P := P) w t ty e i z ht hi hz ⟨g, 0, none⟩ 0 0 [] (by simp) (by intro j u hu; simp at hu) a m c news hl hnews (by omega) (by omega) (growslice_fits (by omega) (by simpa using hbytes))
    rw [hr] at hr2
    injection hr2 with e1 e2
    subst e2
    subst e1
    exact ⟨_, _, hr, h2, ⟨rfl, rfl, rfl, by simp, fun k hk => Below.heap_alloc w.drew _ k hk⟩, .inr rfl⟩

/-- Such a copy of a row of ints. -/
theorem copy_ints {ops : Array Oper} {rest : List Oper} {o : Oper} {a : Act} {w : World} {Q : Exit → Act → World → Prop} (hgd : o.guard = none) (s x : Operand) (ho : o.op = .call { callee := .builtin .append, args := #[s, x], argTypes := #[29, 29] })
    (base g : Nat) (hs : a.eval s = .slice (some ⟨g, 0, none⟩) 0 0) (hbg : base ≤ g) (hg : w.heap[g]? = some (.cells #[] 3 (0, 0))) (ad : Option Addr) (m c : Nat) (l : List Int) (hx : a.eval x = .slice ad m c) (hrow : intsK.rd w [.slice ad m c] l) (hbig : l.length ≤ 4000000) (hbase : base ≤ w.heap.size)
    (h : ∀ ab cb w' S, intsK.own w' S [.slice ab m cb] l → (∀ b ∈ S, b = w.heap.size) → Below w.heap.size w w' → wpList Tryd.prog ops Q rest (a.put o.dst (.slice ab m cb)) w') : wpList Tryd.prog ops Q (o :: rest) a w := by
  obtain ⟨i0, hi, hz0, hz1, hz2⟩ := info_parts infoI
  obtain ⟨hl, hmc, hmm, hnc⟩ := Kn.row_len hrow
  have hfin : ∀ v' w', w'.ownsRow base 3 1 v' m (l.map (Value.int .i64)) → ((v'.ownBlock = some g ∧ m = 0) ∨ v'.ownBlock = some w.heap.size) → ∃ ab cb S, v' = .slice ab m cb ∧ intsK.own w' S [.slice ab m cb] l ∧ (∀ b ∈ S, b = w.heap.size) := by
    intro v' w' h2 h3
    have hO : OwnI base v' l w' := by unfold OwnI; rw [hl]; exact h2
    obtain ⟨ab, cb, hv⟩ := hO.shape
    subst hv
    have hcb : l.length ≤ cb := by
      rcases hO.2 with ⟨hv, h0⟩ | ⟨g', cap, cur, hv, _, _, h4, _⟩
      · simp only [Value.slice.injEq] at hv; omega
      · simp only [Value.slice.injEq] at hv; omega
    obtain ⟨S, ho, hS⟩ := ints_of_own (OwnI.toJ rfl hO) hcb (by omega)
    rw [hl] at ho
    refine ⟨ab, cb, S, by rw [hl], ho, fun b hb => ?_⟩
    rcases hS with ⟨_, e⟩ | ⟨h0, g', off, ea, e, _⟩
    · rw [e] at hb; cases hb
    · rcases h3 with ⟨_, h3⟩ | h3
      · exact absurd (List.length_eq_zero_iff.1 (by omega)) h0
      · rw [e] at hb
        rw [List.mem_singleton.1 hb]
        rw [ea] at h3
        exact Option.some.inj h3
  cases ad with
  | none =>
    obtain rfl : c = 0 := hnc rfl
    obtain rfl : m = 0 := by omega
    have hl0 : l = [] := List.length_eq_zero_iff.1 hl
    subst hl0
    have hown : w.ownsRow base 3 1 (.slice (some ⟨g, 0, none⟩) 0 0) 0 [] := ⟨by simp, .inr ⟨g, 0, #[], rfl, hbg, hg, Nat.le_refl _, Nat.zero_le _, by simp, by simp⟩⟩
    obtain ⟨ab, cb, S, e, h1, h2⟩ := hfin _ w hown (.inl ⟨rfl, rfl⟩)
    refine wpList_append_own_none hgd s x 29 ho base 3 i0 1 Tryd.underlying29 hi _ 0 _ hs hown hx ?_
    rw [e]
    exact h ab cb w S h1 h2 (Below.refl _ _)
  | some ad =>
    have hfl : (l.map (Value.int .i64)).length = m * 1 := by rw [List.length_map, hl, Nat.mul_one]
    refine wpList_plain hgd fun K hK => ?_
    obtain ⟨v', w', hr, h2, h3, h4⟩ := run_append_empty (P := Tryd.prog) w base 29 o.type 3 i0 (.int .i64 0) 1 8 Tryd.underlying29 hi hz0 hz1 hz2 rfl (by decide) g hbg hg ad m c (l.map (Value.int .i64)) hfl (RowI.src (ints_row hrow)) (fun u hu => by obtain ⟨z, _, rfl⟩ := List.mem_map.1 hu; rfl) hmm (by omega) hbase
    obtain ⟨ab, cb, S, e, k1, k2⟩ := hfin v' w' h2 h4
    subst e
    unfold Oper.wp execOp
    simp only [ho, resolve, invoke, builtin, Sem.run_bind, Sem.run_pure, Result.andThen_ok, List.map_toArray, List.map_cons, List.map_nil, hs, hx, hr]
    exact hK _ _ (h ab cb w' S k1 k2 h3)

end Go.Proofs.YtfpfgaifhmgpiaaDoor

namespace Go.Proofs.YtfpfgaifhmgpiaaDoor
open Go.RowKit Go.PlainAid

set_option linter.unusedVariables false

/-- A row of the call's own. -/
def RowF (B n : Nat) (l : List Int) (q : Value) (u : World) : Prop := ∃ ab cb S, q = .slice ab n cb ∧ intsK.own u S [.slice ab n cb] l ∧ ∀ b ∈ S, B ≤ b

theorem RowF.below {B n : Nat} {l : List Int} {q : Value} {u u' : World} (h : RowF B n l q u) (hb : Below u.heap.size u u') : RowF B n l q u' := by
  obtain ⟨ab, cb, S, e, o, k⟩ := h
  exact ⟨ab, cb, S, e, intsK.ownBelow o hb, k⟩

/-- An array without cells whose rows are the call's own. -/
def BothF (B n1 n2 : Nat) (y z : List Int) (q : Value) (u : World) : Prop := ∃ ab cb S ac cc T, q = .agg #[.slice none 0 0, .slice ab n1 cb, .slice ac n2 cc] ∧ intsK.own u S [.slice ab n1 cb] y ∧ intsK.own u T [.slice ac n2 cc] z ∧ (S ++ T).Nodup ∧ ∀ b ∈ S ++ T, B ≤ b

theorem BothF.below {B n1 n2 : Nat} {y z : List Int} {q : Value} {u u' : World} (h : BothF B n1 n2 y z q u) (hb : Below u.heap.size u u') : BothF B n1 n2 y z q u' := by
  obtain ⟨ab, cb, S, ac, cc, T, e, o1, o2, k⟩ := h
  exact ⟨ab, cb, S, ac, cc, T, e, intsK.ownBelow o1 hb, intsK.ownBelow o2 hb, k⟩

/-- A variable that holds such an array. -/
def PhiA (B n1 n2 : Nat) (y z : List Int) (g : Nat) (u : World) : Prop := ∃ ab cb S ac cc T, u.heap[g]? = some (.cells #[.slice none 0 0, .slice ab n1 cb, .slice ac n2 cc] 31 (0, 0)) ∧ intsK.own u S [.slice ab n1 cb] y ∧ intsK.own u T [.slice ac n2 cc] z ∧ (S ++ T).Nodup ∧ (∀ b ∈ S ++ T, B ≤ b) ∧ g ∉ S ++ T

theorem PhiA.below {B n1 n2 : Nat} {y z : List Int} {g : Nat} {u u' : World} (h : PhiA B n1 n2 y z g u) (hb : Below u.heap.size u u') : PhiA B n1 n2 y z g u' := by
  obtain ⟨ab, cb, S, ac, cc, T, e, o1, o2, k⟩ := h
  exact ⟨ab, cb, S, ac, cc, T, keep_block hb e (lt_of_block e), intsK.ownBelow o1 hb, intsK.ownBelow o2 hb, k⟩

theorem ownsRow_below {w w' : World} {B n K : Nat} {T : TypeId} {v : Value} {xs : List Value} (h : w.ownsRow B T K v n xs) (hb : Below w.heap.size w w') : w'.ownsRow B T K v n xs := by
  refine ⟨h.1, ?_⟩
  rcases h.2 with hv | ⟨b, cap, cur, hv, hB, hh, r⟩
  · exact .inl hv
  · exact .inr ⟨b, cap, cur, hv, hB, by rw [hb.block b (lt_of_block hh)]; exact hh, r⟩

/-- A cell of an older block is written. -/
theorem Kn.Bld.setCell {α : Type} {k : Kn α} {T : TypeId} {B : Nat} {w : World} {S : List Nat} {v : Value} {l : List α} (h : k.Bld T B w S v l) {p : Addr} (hp : p.block < B) (q : Value) : k.Bld T B (w.setCell p q) S v l := by
  obtain ⟨xs, h1, h2, h3, h4, h5⟩ := h
  refine ⟨xs, ⟨h1.1, ?_⟩, k.owns_same h2 (fun b hm => Below.heap_setCell _ _ _ _ (by have := h4 b hm; omega)), h3, h4, h5⟩
  rcases h1.2 with hv | ⟨b, cap, cur, hv, hB, hh, r⟩
  · exact .inl hv
  · exact .inr ⟨b, cap, cur, hv, hB, (Below.heap_setCell _ _ _ _ (by omega)).trans hh, r⟩

/-- Two rows that operations 3 and 7 answered, till operation 8. -/
def Pair37 (n1 n2 : Nat) (y z : List Int) (base : Nat) (listed : Array Bool) (x : Nat → Value) (u : World) : Prop := listed.getD 7 false = true → listed.getD 8 false = false → ∃ ab cb S ac cc T, x 3 = .slice ab n1 cb ∧ x 7 = .slice ac n2 cc ∧ intsK.own u S [.slice ab n1 cb] y ∧ intsK.own u T [.slice ac n2 cc] z ∧ (S ++ T).Nodup ∧ ∀ b ∈ S ++ T, base ≤ b

theorem Pair37.zero (n1 n2 : Nat) (y z : List Int) (base n : Nat) (x : Nat → Value) (u : World) : Pair37 n1 n2 y z base (Array.replicate n false) x u := fun h => by rw [getD_replicate_false] at h; cases h

theorem Pair37.keep {n1 n2 : Nat} {y z : List Int} {base : Nat} {listed : Array Bool} {x : Nat → Value} {u u' : World} (h : Pair37 n1 n2 y z base listed x u) {k : Nat} (h3 : k ≠ 3) (h7 : k ≠ 7) (h8 : k ≠ 8) (v : Value) (hb : Below u.heap.size u u') : Pair37 n1 n2 y z base (listed.setIfInBounds k true) (upd x k v) u' := fun h1 h2 => by
  rw [getD_set_ne false h7] at h1
  rw [getD_set_ne false h8] at h2
  rw [upd_other _ _ (Ne.symm h3), upd_other _ _ (Ne.symm h7)]
  obtain ⟨ab, cb, S, ac, cc, T, e1, e2, o1, o2, r⟩ := h h1 h2
  exact ⟨ab, cb, S, ac, cc, T, e1, e2, intsK.ownBelow o1 hb, intsK.ownBelow o2 hb, r⟩

theorem Pair37.no {n1 n2 : Nat} {y z : List Int} {base : Nat} {listed : Array Bool} {x : Nat → Value} {u : World} (h : listed.getD 7 false = false) {k : Nat} (h7 : k ≠ 7) (v : Value) : Pair37 n1 n2 y z base (listed.setIfInBounds k true) (upd x k v) u := fun h1 _ => by
  rw [getD_set_ne false h7, h] at h1; cases h1

theorem Pair37.new {n1 n2 : Nat} {y z : List Int} {base : Nat} {listed : Array Bool} {x : Nat → Value} {u : World} {v : Value} (h : ∃ ab cb S ac cc T, x 3 = .slice ab n1 cb ∧ v = .slice ac n2 cc ∧ intsK.own u S [.slice ab n1 cb] y ∧ intsK.own u T [.slice ac n2 cc] z ∧ (S ++ T).Nodup ∧ ∀ b ∈ S ++ T, base ≤ b) : Pair37 n1 n2 y z base (listed.setIfInBounds 7 true) (upd x 7 v) u := fun _ _ => by
  rw [upd_other _ _ (by decide), upd_same]
  exact h

theorem Pair37.gone {n1 n2 : Nat} {y z : List Int} {base : Nat} {listed : Array Bool} {x : Nat → Value} {u : World} (h : 8 < listed.size) : Pair37 n1 n2 y z base (listed.setIfInBounds 8 true) x u := fun _ h2 => by rw [get_set_same false h] at h2; cases h2

/-- A variable made by operation s, filled by t: zero till then, what Φ says behind it. -/
def MadeG (s t base : Nat) (T : TypeId) (zc : Array Value) (Φ : Nat → World → Prop) (listed : Array Bool) (x : Nat → Value) (u : World) : Prop :=
  (listed.getD t false = true → listed.getD s false = true) ∧
  (listed.getD s false = true → ∃ g, x s = .pointer (some ⟨g, 0, none⟩) ∧ base ≤ g ∧ (listed.getD t false = false → u.heap[g]? = some (.cells zc T (0, 0))) ∧ (listed.getD t false = true → Φ g u))

theorem MadeG.zero (s t base : Nat) (T : TypeId) (zc : Array Value) (Φ : Nat → World → Prop) (n : Nat) (x : Nat → Value) (u : World) : MadeG s t base T zc Φ (Array.replicate n false) x u :=
  ⟨fun h => (by rw [getD_replicate_false] at h; cases h), fun h => by rw [getD_replicate_false] at h; cases h⟩

theorem MadeG.keep {s t base : Nat} {T : TypeId} {zc : Array Value} {Φ : Nat → World → Prop} {listed : Array Bool} {x : Nat → Value} {u u' : World} (h : MadeG s t base T zc Φ listed x u) {i : Nat} (hs : i ≠ s) (ht : i ≠ t) (v : Value) (hΦ : ∀ g, Φ g u → Φ g u') (hb : Below u.heap.size u u') : MadeG s t base T zc Φ (listed.setIfInBounds i true) (upd x i v) u' := by
  refine ⟨fun h1 => ?_, fun h1 => ?_⟩
  · rw [getD_set_ne false ht] at h1
    exact getD_set_true (h.1 h1)
  · rw [getD_set_ne false hs] at h1
    rw [getD_set_ne false ht]
    obtain ⟨g, e, hg, hz, hf⟩ := h.2 h1
    exact ⟨g, by rw [upd_other _ _ (Ne.symm hs)]; exact e, hg, fun h0 => keep_block hb (hz h0) (lt_of_block (hz h0)), fun h0 => hΦ g (hf h0)⟩

theorem MadeG.new {s t base : Nat} {T : TypeId} {zc : Array Value} {Φ : Nat → World → Prop} {listed : Array Bool} {x : Nat → Value} {u : World} (h : MadeG s t base T zc Φ listed x u) (hst : s ≠ t) (hs : listed.getD s false = false) (hb : base ≤ u.heap.size) :
    MadeG s t base T zc Φ (listed.setIfInBounds s true) (upd x s (.pointer (some ⟨u.heap.size, 0, none⟩))) (u.alloc (.cells zc T)) := by
  have ht : listed.getD t false = false := by
    cases e : listed.getD t false with
    | false => rfl
    | true => have := h.1 e; rw [hs] at this; cases this
  refine ⟨fun h1 => ?_, fun h1 => ?_⟩
  · rw [getD_set_ne false hst, ht] at h1; cases h1
  · rw [getD_set_ne false hst, ht]
    exact ⟨_, upd_same _ _ _, hb, fun _ => heap_alloc_new _ _, fun h0 => by cases h0⟩

theorem MadeG.there {s t base : Nat} {T : TypeId} {zc : Array Value} {Φ : Nat → World → Prop} {listed : Array Bool} {x : Nat → Value} {u : World} (h : MadeG s t base T zc Φ listed x u) (hs : listed.getD s false = true) (ht : listed.getD t false = false) :
    ∃ g, x s = .pointer (some ⟨g, 0, none⟩) ∧ base ≤ g ∧ u.heap[g]? = some (.cells zc T (0, 0)) := by
  obtain ⟨g, e, hg, hz, _⟩ := h.2 hs
  exact ⟨g, e, hg, hz ht⟩

theorem MadeG.fill {s t base : Nat} {T : TypeId} {zc : Array Value} {Φ : Nat → World → Prop} {listed : Array Bool} {x : Nat → Value} {u' : World} {g : Nat} {v : Value} (hst : s ≠ t) (hs : listed.getD s false = true) (ht : t < listed.size) (hx : x s = .pointer (some ⟨g, 0, none⟩)) (hg : base ≤ g) (hΦ : Φ g u') :
    MadeG s t base T zc Φ (listed.setIfInBounds t true) (upd x t v) u' := by
  refine ⟨fun _ => getD_set_true hs, fun _ => ⟨g, by rw [upd_other _ _ hst]; exact hx, hg, fun h0 => ?_, fun _ => hΦ⟩⟩
  rw [get_set_same false ht] at h0
  cases h0

end Go.Proofs.YtfpfgaifhmgpiaaDoor

namespace Go.Proofs.YtfpfgaifhmgpiaaDoor
open Go.RowKit Go.PlainAid

set_option linter.unusedVariables false

/-- A place of a row of ints of the call's own. -/
theorem ints_place {w : World} {S : List Nat} {a : Option Addr} {n c : Nat} {l : List Int} (h : intsK.own w S [.slice a n c] l) {k : Nat} (hk : k < l.length) :
    ∃ g off, a = some ⟨g, off, none⟩ ∧ g ∈ S ∧ w.cell? ⟨g, off + k, none⟩ = some (.int .i64 (l.getD k 0)) ∧ w.frozen? ⟨g, off + k, none⟩ = false ∧ g < w.heap.size ∧
      ∀ v : Int, intsK.own (w.setCell ⟨g, off + k, none⟩ (.int .i64 v)) S [.slice a n c] (l.set k v) := by
  obtain ⟨g, off, cs, S1, ha, hg, hS1, hc, hf, hel, _, hce, _⟩ := Kn.own_at h hk
  obtain ⟨rfl, rfl⟩ : S1 = [] ∧ cs = [.int .i64 l[k]] := hel
  have e : l.getD k 0 = l[k] := by rw [List.getD_eq_getElem?_getD, List.getElem?_eq_getElem hk]; rfl
  have h0 := hc 0 (by decide)
  have e1 : off + k * intK.K + 0 = off + k := by show off + k * 1 + 0 = _; omega
  rw [e1] at h0
  refine ⟨g, off, ha, hg, by rw [h0, e]; rfl, hf _, intsK.lt h g hg, fun v => ?_⟩
  have := hce 0 (.int .i64 v) v (by decide) ⟨rfl, rfl⟩
  rw [e1] at this
  exact this

/-- An age, so many cycles later. -/
def ageP (n v : Int) : Int := if 100000 < v + n then 100000 else v + n

def timeF (n : Int) (x : Arr) : Arr := (x.1, x.2.1.map (ageP n), x.2.2)

theorem map_step {f : Int → Int} {l : List Int} {k : Nat} (hk : k < l.length) : ((l.take k).map f ++ l.drop k).set k (f l[k]) = (l.take (k + 1)).map f ++ l.drop (k + 1) := by
  have h1 : ((l.take k).map f).length = k := by rw [List.length_map, List.length_take]; omega
  rw [List.set_append_right _ _ (by omega), h1, Nat.sub_self, List.drop_eq_getElem_cons hk, List.set_cons_zero, List.take_succ_eq_append_getElem hk, List.map_append, List.append_assoc]
  rfl

theorem map_at {f : Int → Int} {l : List Int} {k : Nat} (hk : k < l.length) : ((l.take k).map f ++ l.drop k).getD k 0 = l[k] := by
  have h1 : ((l.take k).map f).length = k := by rw [List.length_map, List.length_take]; omega
  rw [List.getD_eq_getElem?_getD, List.getElem?_append_right (by omega), h1, Nat.sub_self, List.getElem?_drop, Nat.add_zero, List.getElem?_eq_getElem hk]
  rfl

set_option maxHeartbeats 4000000 in
set_option maxRecDepth 100000 in
theorem specTime_is {cs : List Value} {S : List Nat} {x : Arr} {P : Nat} {n : Int} {w : World} (hP : w.heap[P]? = some (.cells cs.toArray 31 (0, 0))) (h : arrK.own w S cs x) (hPS : P ∉ S) (hn : 0 ≤ n ∧ n ≤ 100000) (hx : ∀ v ∈ x.2.1, AgeOk v) :
    Calls Tryd.prog 73 #[.pointer (some ⟨P, 0, none⟩), .int .i64 n] w fun e w' => e = .returned (.tuple #[]) ∧ arrK.own w' S cs (timeF n x) ∧ OnlyS S w w' := by
  obtain ⟨a0, n0, c0, a1, n1, c1, a2, n2, c2, S0, S1, S2, rfl, rfl, hnd, h0, h1, h2⟩ := arr_own h
  obtain ⟨x, y, z⟩ := x
  obtain ⟨hl, _, hm, _⟩ := Kn.row_len (intsK.read h1)
  unfold maxLen at hm
  obtain ⟨q0, q1, q2⟩ := nodup3 hnd
  have hl' : y.length = n1 := hl
  have h1' : intsK.own w S1 [.slice a1 n1 c1] y := h1
  have HL := Lib.hid hl'
  have H0 := Lib.hid h0
  have H1 := Lib.hid h1'
  have H2 := Lib.hid h2
  have HND := Lib.hid hnd
  have Q0 := Lib.hid q0
  have Q2 := Lib.hid q2
  have HX : Hid (∀ v ∈ y, AgeOk v) := hx
  have HP1 : Hid (P ∉ S1) := fun hm => hPS (List.mem_append_right _ (List.mem_append_left _ hm))
  clear h h0 h1 h1' h2 hl hl' hnd q0 q1 q2 hx hPS
  go_enter Tryd.func73, Tryd.ntmps73
  go_wp2_with fail
  go_loopw [4] (fun i wr => ∃ k : Nat, k ≤ n1 ∧ i = .int .i64 k ∧ intsK.own wr S1 [.slice a1 n1 c1] ((y.take k).map (ageP n) ++ y.drop k) ∧ OnlyS S1 w wr) (fun i _ => n1 + 1 - (intOf i).toNat)
  case atStart => exact ⟨0, Nat.zero_le _, rfl, by simpa using H1.out, OnlyS.refl _ _⟩
  case round =>
    obtain ⟨k, hk, rfl, hown, hon⟩ := hrel
    have pr := (hon.block P (lt_of_block hP) HP1.out).trans hP
    have HON := Lib.hid hon
    have HOW := Lib.hid hown
    obtain ⟨p0, p1, p2⟩ := cells3 pr
    clear hon hown
    by_cases hlt : k < n1
    case neg =>
      obtain rfl : k = n1 := by omega
      have hI : decide ((k : Int) < (k : Int)) = false := decide_eq_false (by omega)
      have HF : Hid (intsK.own wr S1 [.slice a1 k c1] (y.map (ageP n))) := by
        have := HOW.out
        rw [List.take_of_length_le (by rw [HL.out]; exact Nat.le_refl _), List.drop_of_length_le (by rw [HL.out]; exact Nat.le_refl _), List.append_nil] at this
        exact this
      go_wp2_with fail
      (try simp only [Exit.inBlock, Exit.then])
      refine bodyPost_end (v := .tuple #[]) (by simp [results, Tryd.results73]) rfl ?_
      refine ⟨rfl, arr_of ?_ HF.out ?_ HND.out, HON.out.mono (fun b hb => List.mem_append_right _ (List.mem_append_left _ hb))⟩
      · exact cellsK.ownKeep H0.out HON.out (fun b hb => (Q0.out b hb).1)
      · exact intsK.ownKeep H2.out HON.out (fun b hb => (Q2.out b hb).2)
    have hI : decide ((k : Int) < (n1 : Int)) = true := decide_eq_true (by omega)
    have wk : IntKind.i64.wrap ((k : Int) + 1) = (k : Int) + 1 := IntWalk.i64_in _ (by omega)
    have hky : k < y.length := by rw [HL.out]; exact hlt
    have hkc : k < ((y.take k).map (ageP n) ++ y.drop k).length := by rw [List.length_append, List.length_map, List.length_take, List.length_drop]; omega
    obtain ⟨g, off, rfl, hgS, hc, hf, hgl, hset⟩ := ints_place HOW.out hkc
    rw [map_at hky] at hc
    have hstep := Lib.hid (map_step (f := ageP n) hky)
    have hage := HX.out y[k] (List.getElem_mem _)
    obtain ⟨v, hv⟩ : ∃ v, y[k] = v := ⟨_, rfl⟩
    rw [hv] at hc hage hstep
    have hage2 : 0 ≤ v ∧ v ≤ 100000 := hage
    have wv : IntKind.i64.wrap (v + n) = v + n := IntWalk.i64_in _ (by omega)
    have z0 := fun q : Later wr => q.cell p0
    have z1 := fun q : Later wr => q.cell p1
    have z2 := fun q : Later wr => q.cell hc
    clear hset hv hage
    go_wp2_with fail
    refine wp_region_later_tail 15 (by kernel_rfl) (by kernel_rfl) ?_
    simp only [List.take_succ_cons, List.take_zero, List.drop_succ_cons, List.drop_zero]
    repeat (go_big_quiet_step (fail))
    refine wpQuiet_nil ?_
    rintro w2 ⟨zz, hz⟩
    have hb2 : Below wr.heap.size wr w2 := hz ▸ zz.ok
    have O2 := intsK.ownBelow HOW.out hb2
    obtain ⟨g', off', hg', _, hc2, hf2, _, hset2⟩ := ints_place O2 hkc
    cases hg'
    have hR2 := hset2 (ageP n v)
    rw [hstep.out] at hR2
    have HR2 := Lib.hid hR2
    have HN2 : Hid (OnlyS S1 w w2) := HON.out.trans (Below.onlyS hb2)
    clear z0 z1 z2 hz zz hb2 O2 hset2 hR2
    go_wp2_with fail
    refine ⟨⟨k + 1, by omega, rfl, HR2.out, HN2.out.setCell hgS _⟩, ?_⟩
    show n1 + 1 - ((k : Int) + 1).toNat < n1 + 1 - (k : Int).toNat
    omega

end Go.Proofs.YtfpfgaifhmgpiaaDoor

namespace Go.Proofs.YtfpfgaifhmgpiaaDoor
open Go.RowKit Go.PlainAid

set_option linter.unusedVariables false

/-- An array of sizes that a program can hold. -/
def ArrFit (x : Arr) : Prop := x.1.length ≤ 3000000 ∧ (∀ c ∈ x.1, c.1.length ≤ 4000000) ∧ x.2.1.length ≤ 4000000 ∧ x.2.2.length ≤ 4000000

instance {ga gb gr gd n : Int} {x : Arr} : Decidable (ArrOk ga gb gr gd x ∧ 0 ≤ n ∧ n ≤ 100000) := inferInstanceAs (Decidable (_ ∧ _ ∧ _))

def timesF (ga gb gr gd n : Int) (x : Arr) : Arr := if ArrOk ga gb gr gd x ∧ 0 ≤ n ∧ n ≤ 100000 then timeF n x else x

theorem size_alloc (w : World) (o : Obj) : (w.alloc o).heap.size = w.heap.size + 1 := by simp

/-- Three variables made, one after another. -/
theorem alloc3 {w u : World} {A B C : Obj} (h : ((w.alloc A).alloc B).alloc C = u) :
    u.heap[w.heap.size]? = some A ∧ u.heap[w.heap.size + 1]? = some B ∧ u.heap[w.heap.size + 1 + 1]? = some C ∧ Below w.heap.size w u := by
  subst h
  have s1 := size_alloc w A
  have s2 := size_alloc (w.alloc A) B
  have e : ((w.alloc A).alloc B).heap.size = w.heap.size + 2 := by omega
  refine ⟨(heap_alloc_old _ _ (by omega)).trans (heap_alloc2_old _ _ _), (heap_alloc_old _ _ (by omega)).trans (heap_alloc2_new _ _ _), ?_, (((Below.refl _ _).alloc (Nat.le_refl _) _).alloc (by omega) _).alloc (by omega) _⟩
  rw [← e]
  exact heap_alloc_new _ _

end Go.Proofs.YtfpfgaifhmgpiaaDoor

namespace Go.Proofs.YtfpfgaifhmgpiaaDoor
open Go.RowKit Go.PlainAid

set_option linter.unusedVariables false

/-- A row has stood too long, or was disturbed too often. -/
def goneF (la lh : Int) (x : Arr) (i : Nat) : Prop := la < x.2.1.getD i 0 ∨ lh < x.2.2.getD i 0

instance (la lh : Int) (x : Arr) (i : Nat) : Decidable (goneF la lh x i) := inferInstanceAs (Decidable (_ ∨ _))

set_option maxHeartbeats 4000000 in
set_option maxRecDepth 100000 in
theorem specGone_is (ga gb gr gd la lh : Int) {cs : List Value} {x : Arr} {w : World} (h : arrK.rd w cs x) {i : Nat} (hi : i < x.2.1.length) (hj : i < x.2.2.length) (v : Bool) (hv : decide (goneF la lh x i) = v) :
    Calls Tryd.prog 97 #[.agg #[.int .i64 ga, .int .i64 gb, .int .i64 gr, .int .i64 gd], .agg #[.int .i64 la, .int .i64 lh], .agg cs.toArray, .int .i64 i] w (Gives (.bool v) w) := by
  obtain ⟨a0, n0, c0, a1, n1, c1, a2, n2, c2, rfl, h0, h1, h2⟩ := arr_rd h
  obtain ⟨l1, _, m1, _⟩ := Kn.row_len h1
  obtain ⟨l2, _, m2, _⟩ := Kn.row_len h2
  obtain ⟨x, y, z⟩ := x
  unfold maxLen at m1 m2
  obtain ⟨w1, hw1⟩ : ∃ u, ((w.alloc (.cells #[.int .i64 ga, .int .i64 gb, .int .i64 gr, .int .i64 gd] 25)).alloc (.cells #[.int .i64 la, .int .i64 lh] 27)).alloc (.cells #[.slice a0 n0 c0, .slice a1 n1 c1, .slice a2 n2 c2] 31) = u := ⟨_, rfl⟩
  obtain ⟨g1, t1, p1, hb1⟩ := alloc3 hw1
  have HB1 := Lib.hid hb1
  have hi' : i < y.length := hi
  have hj' : i < z.length := hj
  have hn1 : i < n1 := by rw [← show y.length = n1 from l1]; exact hi'
  have hn2 : i < n2 := by rw [← show z.length = n2 from l2]; exact hj'
  obtain ⟨gy, oy, rfl, cy⟩ := (ints_row (intsK.below h1 hb1)).at hi'
  obtain ⟨gz, oz, rfl, cz⟩ := (ints_row (intsK.below h2 hb1)).at hj'
  have HV : Hid (decide (la < y.getD i 0 ∨ lh < z.getD i 0) = v) := hv
  generalize y.getD i 0 = u1 at cy HV
  generalize z.getD i 0 = u2 at cz HV
  clear h h0 h1 h2 hi hj hi' hj' hv hb1 l1 l2
  obtain ⟨t0, t1⟩ := cells2 t1
  obtain ⟨p0, p1, p2⟩ := cells3 p1
  have z0 := fun q : Later w1 => q.cell t0
  have z1 := fun q : Later w1 => q.cell t1
  have z3 := fun q : Later w1 => q.cell p1
  have z4 := fun q : Later w1 => q.cell p2
  have z5 := fun q : Later w1 => q.cell cy
  have z6 := fun q : Later w1 => q.cell cz
  clear t0 t1 p0 p1 p2 cy cz g1
  by_cases k1 : la < u1
  case pos =>
    have d1 : decide (la < u1) = true := decide_eq_true k1
    have HE : Hid (true = v) := by rw [← HV.out]; exact (decide_eq_true (Or.inl k1)).symm
    clear k1
    go_enter Tryd.func97, Tryd.ntmps97
    go_wp2_with fail
    refine wp_region_later (by kernel_rfl) (by kernel_rfl) ?_
    repeat (go_big_quiet_step (fail))
    refine wpQuiet_nil ?_
    rintro w2 ⟨zz, hz⟩
    have HB2 : Hid (Below w.heap.size w w2) := HB1.out.trans ((hz ▸ zz.ok : Below w1.heap.size w1 w2).mono HB1.out.size)
    clear z0 z1 z3 z4 z5 z6 hz zz
    go_wp2_with fail
    go_ret
    exact ⟨ret_b HE.out, HB2.out⟩
  case neg =>
    have d1 : decide (la < u1) = false := decide_eq_false k1
    obtain ⟨bb, hbb⟩ : ∃ bb, decide (lh < u2) = bb := ⟨_, rfl⟩
    have HE : Hid (bb = v) := by rw [← HV.out, ← hbb]; exact decide_eq_decide.2 ⟨Or.inr, fun h => h.resolve_left k1⟩
    clear k1
    go_enter Tryd.func97, Tryd.ntmps97
    go_wp2_with fail
    refine wp_region_later (by kernel_rfl) (by kernel_rfl) ?_
    repeat (go_big_quiet_step (fail))
    refine wpQuiet_nil ?_
    rintro w2 ⟨zz, hz⟩
    have HB2 : Hid (Below w.heap.size w w2) := HB1.out.trans ((hz ▸ zz.ok : Below w1.heap.size w1 w2).mono HB1.out.size)
    clear z0 z1 z3 z4 z5 z6 hz zz
    go_wp2_with fail
    go_ret
    exact ⟨ret_b HE.out, HB2.out⟩

/-- A row that exists, in a valid array, has gone. -/
def decF (ga gb gr gd la lh : Int) (x : Arr) (bk rw : Int) : Prop := ArrOk ga gb gr gd x ∧ AdOk ga gb gr gd bk rw 0 ∧ goneF la lh x (bk * gr + rw).toNat

instance (ga gb gr gd la lh : Int) (x : Arr) (bk rw : Int) : Decidable (decF ga gb gr gd la lh x bk rw) := inferInstanceAs (Decidable (_ ∧ _))

/-- The place of a row that exists. -/
theorem row_place {ga gb gr gd bk rw : Int} {x : Arr} (h : ArrOk ga gb gr gd x) (hr : AdOk ga gb gr gd bk rw 0) :
    ∃ i : Nat, bk * gr + rw = i ∧ i < x.2.1.length ∧ i < x.2.2.length ∧ i < 128 ∧ 0 ≤ bk * gr ∧ bk * gr ≤ 128 := by
  obtain ⟨hg, _, h1, h2, _⟩ := h
  obtain ⟨⟨b0, b1⟩, ⟨r0, r1⟩, _⟩ := hr
  have hrr := rowsN_range hg
  obtain ⟨_, _, ⟨h3, h4⟩, _⟩ := hg
  have e1 : 0 ≤ bk * gr := Int.mul_nonneg b0 (by omega)
  have e2 : bk * gr + gr ≤ bankN ga gb gr gd * gr := by
    have : (bk + 1) * gr ≤ bankN ga gb gr gd * gr := Int.mul_le_mul_of_nonneg_right (by omega) (by omega)
    rw [Int.add_mul, Int.one_mul] at this
    exact this
  generalize bk * gr = q at e1 e2 ⊢
  generalize bankN ga gb gr gd * gr = R at e2 h1 hrr
  exact ⟨(q + rw).toNat, by omega, by omega, by omega, by omega, by omega, by omega⟩

end Go.Proofs.YtfpfgaifhmgpiaaDoor

namespace Go.Proofs.YtfpfgaifhmgpiaaDoor
open Go.RowKit Go.PlainAid

set_option linter.unusedVariables false

/-- An element, with bits turned. -/
def xr (v : Int) (m : Nat) : Int := ((v.toNat ^^^ m : Nat) : Int)

/-- A cell's two first symbols spoiled. -/
def spoil (s : List Int) : List Int := (s.set 0 (xr (s.getD 0 0) 5)).set 1 (xr (s.getD 1 0) 10)

/-- So many cells from a place on spoiled. -/
def spoilN (X : List (List Int × Bool)) (b : Nat) : Nat → List (List Int × Bool)
  | 0 => X
  | k + 1 => (spoilN X b k).set (b + k) (spoil ((spoilN X b k).getD (b + k) ([], false)).1, ((spoilN X b k).getD (b + k) ([], false)).2)

theorem spoilN_length (X : List (List Int × Bool)) (b k : Nat) : (spoilN X b k).length = X.length := by
  induction k with
  | zero => rfl
  | succ k ih => rw [spoilN, List.length_set, ih]

theorem spoilN_far {X : List (List Int × Bool)} {b k j : Nat} (d : List Int × Bool) (h : j < b ∨ b + k ≤ j) : (spoilN X b k).getD j d = X.getD j d := by
  induction k with
  | zero => rfl
  | succ k ih =>
    rw [spoilN, List.getD_eq_getElem?_getD, List.getElem?_set_ne (by omega), ← List.getD_eq_getElem?_getD]
    exact ih (by omega)

/-- One more disturbance. -/
def hitF (z : List Int) (k : Nat) : List Int := z.set k (ageP 1 (z.getD k 0))

def hitsF (gr : Int) (z : List Int) (i : Nat) (rw : Int) : List Int :=
  let z1 := if 0 < rw then hitF (z.set i 0) (i - 1) else z.set i 0
  if rw < gr - 1 then hitF z1 (i + 1) else z1

/-- A row sensed. -/
def senseF (gr gd la lh : Int) (x : Arr) (i : Nat) (rw : Int) : Arr :=
  (if goneF la lh x i then spoilN x.1 (i * gd.toNat) gd.toNat else x.1, x.2.1.set i 0, hitsF gr x.2.2 i rw)

theorem age_getD {l : List Int} (h : ∀ v ∈ l, AgeOk v) (k : Nat) : AgeOk (l.getD k 0) := by
  by_cases hk : k < l.length
  · rw [List.getD_eq_getElem?_getD, List.getElem?_eq_getElem hk]
    exact h _ (List.getElem_mem _)
  · rw [List.getD_eq_getElem?_getD, List.getElem?_eq_none (by omega)]
    exact ⟨by decide, by decide⟩

theorem age_set {l : List Int} (h : ∀ v ∈ l, AgeOk v) (k : Nat) {u : Int} (hu : AgeOk u) : ∀ v ∈ l.set k u, AgeOk v := by
  intro v hv
  rcases List.mem_or_eq_of_mem_set hv with h1 | rfl
  · exact h v h1
  · exact hu

theorem ageP_ok {v : Int} (h : AgeOk v) : AgeOk (ageP 1 v) := by
  obtain ⟨h0, h1⟩ := h
  unfold ageP
  split
  · exact ⟨by decide, by decide⟩
  · exact ⟨by omega, by omega⟩

theorem age_hit {l : List Int} (h : ∀ v ∈ l, AgeOk v) (k : Nat) : ∀ v ∈ hitF l k, AgeOk v := age_set h k (ageP_ok (age_getD h k))

/-- The place of a row that exists, and of its neighbours. -/
theorem row_near {ga gb gr gd bk rw : Int} {x : Arr} (h : ArrOk ga gb gr gd x) (hr : AdOk ga gb gr gd bk rw 0) :
    ∃ i D : Nat, bk * gr + rw = i ∧ gd = D ∧ D ≤ 8 ∧ i * D + D ≤ x.1.length ∧ (0 < rw → 1 ≤ i) ∧ (rw < gr - 1 → i + 1 < x.2.1.length) ∧ (2 ≤ gr ∧ gr ≤ 16) := by
  obtain ⟨hg, h0, h1, h2, _⟩ := h
  obtain ⟨⟨b0, b1⟩, ⟨r0, r1⟩, _⟩ := hr
  have hrr := rowsN_range hg
  obtain ⟨_, _, ⟨h3, h4⟩, h5, h6⟩ := hg
  have e1 : 0 ≤ bk * gr := Int.mul_nonneg b0 (by omega)
  have e2 : bk * gr + gr ≤ bankN ga gb gr gd * gr := by
    have : (bk + 1) * gr ≤ bankN ga gb gr gd * gr := Int.mul_le_mul_of_nonneg_right (by omega) (by omega)
    rw [Int.add_mul, Int.one_mul] at this
    exact this
  unfold lineN at h0
  generalize bk * gr = q at e1 e2 ⊢
  generalize bankN ga gb gr gd * gr = R at e2 h0 h1 hrr
  obtain ⟨i, hi⟩ : ∃ i : Nat, q + rw = i := ⟨(q + rw).toNat, by omega⟩
  obtain ⟨D, hD⟩ : ∃ D : Nat, gd = D := ⟨gd.toNat, by omega⟩
  refine ⟨i, D, hi, hD, by omega, ?_, by omega, by omega, by omega, by omega⟩
  have e3 : ((i : Int) + 1) * D ≤ R * D := Int.mul_le_mul_of_nonneg_right (by omega) (by omega)
  rw [hD] at h0
  rw [← h0, Int.add_mul, Int.one_mul] at e3
  have e4 : ((i * D + D : Nat) : Int) = (i : Int) * D + D := by push_cast; rfl
  have e5 : ((i * D + D : Nat) : Int) ≤ (x.1.length : Int) := by rw [e4]; exact e3
  exact Int.ofNat_le.mp e5

/-- A symbol of a cell of an array of the call's own. -/
theorem cell_place {w : World} {S : List Nat} {cs : List Value} {x : Arr} (h : arrK.own w S cs x) {j : Nat} (hj : j < x.1.length) {c : List Int × Bool} (hc : x.1.getD j ([], false) = c) :
    ∃ g off n0 c0 v1 v2 a n k S1, cs = [.slice (some ⟨g, off, none⟩) n0 c0, v1, v2] ∧ j < n0 ∧ g ∈ S ∧ n0 ≤ maxLen ∧ n = c.1.length ∧ w.cell? ⟨g, off + j * 2, none⟩ = some (.slice a n k) ∧ (∀ b ∈ S1, b ∈ S ∧ b ≠ g) ∧ intsK.own w S1 [.slice a n k] c.1 ∧
      ∀ w' y, OnlyS S1 w w' → intsK.own w' S1 [.slice a n k] y → arrK.own w' S cs (x.1.set j (y, c.2), x.2) := by
  obtain ⟨a0, n0, c0, a1, n1, c1, a2, n2, c2, S0, S1, S2, rfl, rfl, hnd, h0, h1, h2⟩ := arr_own h
  obtain ⟨l0, _, m0, _⟩ := Kn.row_len (cellsK.read h0)
  obtain ⟨g, off, ds, T, rfl, hg, hT, hcell, _, hel, hin, _, _⟩ := Kn.own_at h0 hj
  have he : x.1[j] = c := by rw [← hc, List.getD_eq_getElem?_getD, List.getElem?_eq_getElem hj]; rfl
  rw [he] at hel
  obtain ⟨a, n, k, rfl, hi⟩ := cell_own hel
  obtain ⟨q1, _, _, _⟩ := Kn.row_len (intsK.read hi)
  obtain ⟨u0, u1, u2⟩ := nodup3 hnd
  have hT1 : ∀ b ∈ S1, b ∉ T := fun b hb hb' => (u1 b hb).1 (hT b hb').1
  have hT2 : ∀ b ∈ S2, b ∉ T := fun b hb hb' => (u2 b hb).1 (hT b hb').1
  refine ⟨g, off, n0, c0, _, _, a, n, k, T, rfl, by have : x.1.length = n0 := l0; omega, List.mem_append_left _ hg, m0, q1.symm, hcell 0 (by decide), fun b hb => ⟨List.mem_append_left _ (hT b hb).1, (hT b hb).2⟩, hi, fun w' y ho hy => ?_⟩
  exact arr_of (hin w' (y, c.2) ho (cell_of c.2 hy)) (intsK.ownKeep h1 ho hT1) (intsK.ownKeep h2 ho hT2) hnd

/-- An age of an array of the call's own. -/
theorem age_place {w : World} {S : List Nat} {cs : List Value} {x : Arr} (h : arrK.own w S cs x) {k : Nat} (hk : k < x.2.1.length) :
    ∃ g off v0 n c v2, cs = [v0, .slice (some ⟨g, off, none⟩) n c, v2] ∧ k < n ∧ n ≤ maxLen ∧ g ∈ S ∧ w.cell? ⟨g, off + k, none⟩ = some (.int .i64 (x.2.1.getD k 0)) ∧ w.frozen? ⟨g, off + k, none⟩ = false ∧
      ∀ v : Int, arrK.own (w.setCell ⟨g, off + k, none⟩ (.int .i64 v)) S cs (x.1, x.2.1.set k v, x.2.2) := by
  obtain ⟨a0, n0, c0, a1, n1, c1, a2, n2, c2, S0, S1, S2, rfl, rfl, hnd, h0, h1, h2⟩ := arr_own h
  obtain ⟨l1, _, m1, _⟩ := Kn.row_len (intsK.read h1)
  obtain ⟨g, off, rfl, hg, hc, hf, _, hset⟩ := ints_place h1 hk
  obtain ⟨u0, u1, u2⟩ := nodup3 hnd
  have l1' : x.2.1.length = n1 := l1
  refine ⟨g, off, _, n1, c1, _, rfl, by omega, m1, List.mem_append_right _ (List.mem_append_left _ hg), hc, hf, fun v => arr_of (cellsK.ownSet h0 (fun b hb e => ?_) _) (hset v) (intsK.ownSet h2 (fun b hb e => ?_) _) hnd⟩
  · exact (u0 b hb).1 (e ▸ hg)
  · exact (u2 b hb).2 (e ▸ hg)

/-- A count of disturbances of an array of the call's own. -/
theorem hit_place {w : World} {S : List Nat} {cs : List Value} {x : Arr} (h : arrK.own w S cs x) {k : Nat} (hk : k < x.2.2.length) :
    ∃ g off v0 v1 n c, cs = [v0, v1, .slice (some ⟨g, off, none⟩) n c] ∧ k < n ∧ n ≤ maxLen ∧ g ∈ S ∧ w.cell? ⟨g, off + k, none⟩ = some (.int .i64 (x.2.2.getD k 0)) ∧ w.frozen? ⟨g, off + k, none⟩ = false ∧
      ∀ v : Int, arrK.own (w.setCell ⟨g, off + k, none⟩ (.int .i64 v)) S cs (x.1, x.2.1, x.2.2.set k v) := by
  obtain ⟨a0, n0, c0, a1, n1, c1, a2, n2, c2, S0, S1, S2, rfl, rfl, hnd, h0, h1, h2⟩ := arr_own h
  obtain ⟨l1, _, m1, _⟩ := Kn.row_len (intsK.read h2)
  obtain ⟨g, off, rfl, hg, hc, hf, _, hset⟩ := ints_place h2 hk
  obtain ⟨u0, u1, u2⟩ := nodup3 hnd
  have l1' : x.2.2.length = n2 := l1
  refine ⟨g, off, _, _, n2, c2, rfl, by omega, m1, List.mem_append_right _ (List.mem_append_right _ hg), hc, hf, fun v => arr_of (cellsK.ownSet h0 (fun b hb e => ?_) _) (intsK.ownSet h1 (fun b hb e => ?_) _) (hset v) hnd⟩
  · exact (u0 b hb).2 (e ▸ hg)
  · exact (u1 b hb).2 (e ▸ hg)

end Go.Proofs.YtfpfgaifhmgpiaaDoor

namespace Go.Proofs.YtfpfgaifhmgpiaaDoor
open Go.RowKit Go.PlainAid

set_option linter.unusedVariables false

theorem keep_set {w : World} {P : Nat} {o : Obj} {p : Addr} {v : Value} (h : w.heap[P]? = some o) (hn : P ≠ p.block) : (w.setCell p v).heap[P]? = some o :=
  (Below.heap_setCell w p v P hn).trans h

set_option maxHeartbeats 40000000 in
set_option maxRecDepth 100000 in
theorem specSense_is (ga gb gr gd la lh bk rw : Int) {cs : List Value} {S : List Nat} {xx : Arr} {P i : Nat} {w : World} (hP : w.heap[P]? = some (.cells cs.toArray 31 (0, 0))) (h : arrK.own w S cs xx) (hPS : P ∉ S) (ha : ArrOk ga gb gr gd xx) (hr : AdOk ga gb gr gd bk rw 0) (hi : bk * gr + rw = i) :
    Calls Tryd.prog 66 #[.agg #[.int .i64 ga, .int .i64 gb, .int .i64 gr, .int .i64 gd], .agg #[.int .i64 la, .int .i64 lh], .pointer (some ⟨P, 0, none⟩), .int .i64 bk, .int .i64 rw] w fun e w' => e = .returned (.tuple #[]) ∧ arrK.own w' S cs (senseF gr gd la lh xx i rw) ∧ OnlyS S w w' := by
  obtain ⟨a0, n0, c0, a1, n1, c1, a2, n2, c2, S0, S1, S2, rfl, -⟩ := arr_own h
  obtain ⟨x, y, z⟩ := xx
  obtain ⟨u1, hu1, hi1, hi2, hi3, hq1, hq2⟩ := row_place ha hr
  obtain ⟨u2, D, hu2, hD, hD8, hcl, hup, hdn, hgr⟩ := row_near ha hr
  have e1 : i = u1 := by omega
  have e2 : i = u2 := by omega
  subst e1
  subst e2
  obtain ⟨q, hq⟩ : ∃ q, bk * gr = q := ⟨_, rfl⟩
  rw [hq] at hi hq1 hq2
  subst hD
  obtain ⟨w1, hw1⟩ : ∃ u, (w.alloc (.cells #[.int .i64 ga, .int .i64 gb, .int .i64 gr, .int .i64 (D : Int)] 25)).alloc (.cells #[.int .i64 la, .int .i64 lh] 27) = u := ⟨_, rfl⟩
  have hb1 : Below w.heap.size w w1 := by subst hw1; exact ((Below.refl _ _).alloc (Nat.le_refl _) _).alloc (by simp) _
  have qw1 : w1.heap[w.heap.size]? = some (.cells #[.int .i64 ga, .int .i64 gb, .int .i64 gr, .int .i64 (D : Int)] 25) := hw1 ▸ heap_alloc2_old w _ _
  have l1 : w1.heap[w.heap.size + 1]? = some (.cells #[.int .i64 la, .int .i64 lh] 27) := hw1 ▸ heap_alloc2_new w _ _
  have pw1 := keep_block hb1 hP (lt_of_block hP)
  have HOw1 := Lib.hid (arrK.ownBelow h hb1)
  have HONw1 : Hid (OnlyS S w w1) := Below.onlyS hb1
  have HPS : Hid (P ∉ S) := hPS
  have HGS : Hid (w.heap.size ∉ S) := fun hm => absurd (arrK.lt h _ hm) (Nat.lt_irrefl _)
  have HIY : Hid (i < y.length) := hi1
  have HIZ : Hid (i < z.length) := hi2
  have HLZ : Hid (z.length = y.length) := ha.2.2.2.1
  have HI8 : Hid (i < 128) := hi3
  have HCL : Hid (i * D + D ≤ x.length) := hcl
  have HUP : Hid (0 < rw → 1 ≤ i) := hup
  have HDN : Hid (rw < gr - 1 → i + 1 < y.length) := hdn
  have HZ : Hid (∀ v ∈ z, AgeOk v) := ha.2.2.2.2.2.2
  have HSY : Hid (∀ c ∈ x, SymOk c.1 11) := ha.2.2.2.2.1
  have wq : IntKind.i64.wrap q = q := IntWalk.i64_in _ (by omega)
  have wi : IntKind.i64.wrap ((i : Nat) : Int) = (i : Int) := IntWalk.i64_in _ (by omega)
  have wg : IntKind.i64.wrap (gr - 1) = gr - 1 := IntWalk.i64_in _ (by omega)
  have hw2 : w1.heap.size = w.heap.size + 2 := by subst hw1; simp
  clear h hPS ha hr hu1 hu2 hi1 hi2 hi3 hcl hup hdn hgr hq1 hq2 hb1 hP
  obtain ⟨x0, x1, x2, x3⟩ := cells4 qw1
  obtain ⟨y0, y1⟩ := cells2 l1
  obtain ⟨t0, t1, t2⟩ := cells3 pw1
  have zx0 := fun q : Later w1 => q.cell x0
  have zx1 := fun q : Later w1 => q.cell x1
  have zx2 := fun q : Later w1 => q.cell x2
  have zx3 := fun q : Later w1 => q.cell x3
  have zy0 := fun q : Later w1 => q.cell y0
  have zy1 := fun q : Later w1 => q.cell y1
  have zt0 := fun q : Later w1 => q.cell t0
  have zt1 := fun q : Later w1 => q.cell t1
  have zt2 := fun q : Later w1 => q.cell t2
  by_cases hG : goneF la lh (x, y, z) i
  case pos =>
    have KG := Lib.hid (decide_eq_true hG)
    clear x0 x1 t0 t1 t2 y0 y1
    go_enter Tryd.func66, Tryd.ntmps66
    go_wp2_with fail
    refine wp_region_later (by kernel_rfl) (by kernel_rfl) ?_
    repeat (go_big_quiet_step (first | (go_at_call 97; exact Gives.later _ (specGone_is ga gb gr D la lh (arrK.below (arrK.read HOw1.out) (Later.ok _)) HIY.out HIZ.out true KG.out))))
    refine wpQuiet_nil ?_
    rintro B0 ⟨zz, hz⟩
    have hbR : Below w1.heap.size w1 B0 := hz ▸ zz.ok
    have HOB0 := Lib.hid (arrK.ownBelow HOw1.out hbR)
    have pB0 := keep_block hbR pw1 (lt_of_block pw1)
    have qB0 := keep_block hbR qw1 (lt_of_block qw1)
    have HONB0 : Hid (OnlyS S w B0) := HONw1.out.trans (Below.onlyS hbR)
    clear zx0 zx1 zx2 zx3 zy0 zy1 zt0 zt1 zt2 x2 x3 hz zz hbR
    obtain ⟨bb, hbb⟩ : ∃ bb, i * D = bb := ⟨_, rfl⟩
    have HBB := Lib.hid hbb
    have wm' : IntKind.i64.wrap ((i : Int) * (D : Int)) = (bb : Int) := by
      have e : (i : Int) * (D : Int) = (bb : Int) := by rw [← hbb]; exact (Int.natCast_mul i D).symm
      rw [e]
      exact IntWalk.i64_in _ (by have := HCL.out; have := HI8.out; have : i * D ≤ 128 * 8 := Nat.mul_le_mul (by omega) hD8; omega)
    have hbs : bb ≤ 1024 := by have := HI8.out; have : i * D ≤ 128 * 8 := Nat.mul_le_mul (by omega) hD8; omega
    have HGG := Lib.hid hG
    clear hG hbb
    obtain ⟨x0, x1, x2, x3⟩ := cells4 qB0
    go_wp2_with fail
    go_loopw [11] (fun v wr => ∃ k : Nat, k ≤ D ∧ v = .int .i64 k ∧ arrK.own wr S [.slice a0 n0 c0, .slice a1 n1 c1, .slice a2 n2 c2] (spoilN x bb k, y, z) ∧ OnlyS S B0 wr) (fun v _ => D + 1 - (intOf v).toNat)
    case atStart => exact ⟨0, Nat.zero_le _, rfl, HOB0.out, OnlyS.refl _ _⟩
    case round =>
      obtain ⟨k, hk, rfl, hown, hon⟩ := hrel
      have HOwr := Lib.hid hown
      have pwr := (hon.block P (lt_of_block pB0) HPS.out).trans pB0
      have qwr := (hon.block _ (lt_of_block qB0) HGS.out).trans qB0
      have HONwr : Hid (OnlyS S w wr) := HONB0.out.trans hon
      have HON := Lib.hid hon
      clear hown hon x0 x1 x2 x3
      obtain ⟨x0, x1, x2, x3⟩ := cells4 qwr
      by_cases hlt : k < D
      case neg =>
        obtain rfl : k = D := by omega
        have hI : decide ((k : Int) < (k : Int)) = false := decide_eq_false (by omega)
        obtain ⟨X, hX⟩ : ∃ X, spoilN x bb k = X := ⟨_, rfl⟩
        have HX : Hid ((if goneF la lh (x, y, z) i then spoilN x (i * (k : Int).toNat) (k : Int).toNat else x) = X) := by
          show _ = _
          rw [if_pos HGG.out, Int.toNat_natCast, HBB.out]
          exact hX
        rw [hX] at HOwr
        clear hX
        obtain ⟨gy, oy, _, ny, cy, _, ey, hiny, _, hgy, _, hfy, hsety⟩ := age_place HOwr.out (k := i) HIY.out
        cases ey
        obtain ⟨A1, hA1⟩ : ∃ u, wr.setCell ⟨gy, oy + i, none⟩ (.int .i64 0) = u := ⟨_, rfl⟩
        have HOA1 : Hid (arrK.own A1 S _ (X, y.set i 0, z)) := hA1 ▸ hsety 0
        have pA1 : A1.heap[P]? = _ := hA1 ▸ keep_set pwr (fun e => HPS.out (e ▸ hgy))
        have qA1 : A1.heap[w.heap.size]? = _ := hA1 ▸ keep_set qwr (fun e => HGS.out (e ▸ hgy))
        have HONA1 : Hid (OnlyS S w A1) := hA1 ▸ HONwr.out.setCell hgy _
        clear hsety
        obtain ⟨gj, oj, _, _, nj, cj, ej, hinj, _, hgj, _, hfj, hsetj⟩ := hit_place HOA1.out (k := i) HIZ.out
        cases ej
        obtain ⟨A2, hA2⟩ : ∃ u, A1.setCell ⟨gj, oj + i, none⟩ (.int .i64 (0)) = u := ⟨_, rfl⟩
        have HOA2 : Hid (arrK.own A2 S _ (X, y.set i 0, z.set i 0)) := hA2 ▸ hsetj (0)
        have pA2 : A2.heap[P]? = _ := hA2 ▸ keep_set pA1 (fun e => HPS.out (e ▸ hgj))
        have qA2 : A2.heap[w.heap.size]? = _ := hA2 ▸ keep_set qA1 (fun e => HGS.out (e ▸ hgj))
        have HONA2 : Hid (OnlyS S w A2) := hA2 ▸ HONA1.out.setCell hgj _
        clear hsetj
        obtain ⟨p0, p1, p2⟩ := cells3 pwr
        obtain ⟨r0, r1, r2⟩ := cells3 pA1
        obtain ⟨s0, s1, s2, s3⟩ := cells4 qA2
        by_cases hU : 0 < rw
        case pos =>
          have dU : decide (0 < rw) = true := decide_eq_true hU
          obtain ⟨m, hm⟩ : ∃ m, i = m + 1 := ⟨i - 1, by have := HUP.out hU; omega⟩
          have HM := Lib.hid hm
          have wm : IntKind.i64.wrap ((i : Int) - 1) = (m : Int) := by rw [hm]; exact (IntWalk.i64_in _ (by have := HI8.out; omega)).trans (by omega)
          have HMZ : Hid (m < (z.set i 0).length) := by show _ < _; rw [List.length_set]; have := HIZ.out; omega
          have HZU : Hid (∀ v ∈ z.set i 0, AgeOk v) := age_set HZ.out i ⟨by decide, by decide⟩
          have HUU := Lib.hid hU
          clear hm hU
          go_wp2_with fail
          clear p0 p1 p2 r0 r1 r2
          obtain ⟨Ug, Uo, _, _, Un, Uc, Ue, Uhin, _, Uhg, Uhc, _, _⟩ := hit_place HOA2.out (k := m) HMZ.out
          cases Ue
          obtain ⟨Uv, Uhv⟩ : ∃ v, (z.set i 0).getD m 0 = v := ⟨_, rfl⟩
          have Ua : 0 ≤ Uv ∧ Uv ≤ 100000 := Uhv ▸ age_getD HZU.out m
          have Uhc' : A2.cell? ⟨gj, oj + m, none⟩ = some (.int .i64 Uv) := Uhv ▸ Uhc
          have Uw : IntKind.i64.wrap (Uv + 1) = Uv + 1 := IntWalk.i64_in _ (by omega)
          obtain ⟨Ut0, Ut1, Ut2⟩ := cells3 pA2
          have Uz0 := fun q : Later A2 => q.cell Ut2
          have Uz1 := fun q : Later A2 => q.cell Uhc'
          have UHV := Lib.hid Uhv
          clear Uhc Uhc' Ut0 Ut1 Ut2 Uhv Ua
          refine wp_region_later_tail 16 (by kernel_rfl) (by kernel_rfl) ?_
          simp only [List.take_succ_cons, List.take_zero, List.drop_succ_cons, List.drop_zero]
          repeat (go_big_quiet_step (fail))
          refine wpQuiet_nil ?_
          rintro A3 ⟨zz, hz⟩
          generalize hTT : (if 100000 < Uv + 1 then (100000 : Int) else Uv + 1) = Uu
          have UHU : Hid (ageP 1 Uv = Uu) := hTT
          have hbR : Below A2.heap.size A2 A3 := hz ▸ zz.ok
          have HOA3 := Lib.hid (arrK.ownBelow HOA2.out hbR)
          have pA3 := keep_block hbR pA2 (lt_of_block pA2)
          have qA3 := keep_block hbR qA2 (lt_of_block qA2)
          have HONA3 : Hid (OnlyS S w A3) := HONA2.out.trans (Below.onlyS hbR)
          clear Uz0 Uz1 hz zz hbR hTT
          obtain ⟨Ug', Uo', _, _, Un', Uc', Ue', _, _, Uhg', _, Uhf', Uhset⟩ := hit_place HOA3.out (k := m) HMZ.out
          cases Ue'
          obtain ⟨A4, hA4⟩ : ∃ u, A3.setCell ⟨gj, oj + m, none⟩ (.int .i64 (Uu)) = u := ⟨_, rfl⟩
          have HOA4 : Hid (arrK.own A4 S [.slice a0 n0 c0, .slice (some ⟨gy, oy, none⟩) n1 c1, .slice (some ⟨gj, oj, none⟩) n2 c2] (X, y.set i 0, hitF (z.set i 0) m)) := by
            have := Uhset Uu
            show arrK.own A4 S _ (X, y.set i 0, (z.set i 0).set m (ageP 1 ((z.set i 0).getD m 0)))
            rw [UHV.out, UHU.out]
            exact hA4 ▸ this
          have pA4 : A4.heap[P]? = _ := hA4 ▸ keep_set pA3 (fun e => HPS.out (e ▸ Uhg'))
          have qA4 : A4.heap[w.heap.size]? = _ := hA4 ▸ keep_set qA3 (fun e => HGS.out (e ▸ Uhg'))
          have HONA4 : Hid (OnlyS S w A4) := hA4 ▸ HONA3.out.setCell Uhg' _
          clear Uhset
          clear s0 s1 s2 s3
          obtain ⟨s0, s1, s2, s3⟩ := cells4 qA4
          by_cases hDn : rw < gr - 1
          case pos =>
            have dD : decide (rw < gr - 1) = true := decide_eq_true hDn
            obtain ⟨t, ht⟩ : ∃ t, t = i + 1 := ⟨_, rfl⟩
            have wt : IntKind.i64.wrap ((i : Int) + 1) = (t : Int) := by rw [ht]; exact (IntWalk.i64_in _ (by have := HI8.out; omega)).trans (by omega)
            have HTZ : Hid (t < (hitF (z.set i 0) m).length) := by show _ < _; simp only [hitF, List.length_set]; have := HDN.out hDn; have := HLZ.out; omega
            have HZV : Hid (∀ v ∈ hitF (z.set i 0) m, AgeOk v) := age_hit HZU.out m
            have HE : Hid (senseF gr k la lh (x, y, z) i rw = (X, y.set i 0, hitF (hitF (z.set i 0) m) t)) := by
              show (_, _, _) = _
              rw [ht]
              have e1 : (if goneF la lh (x, y, z) i then spoilN x (i * (k : Int).toNat) (k : Int).toNat else x) = X := HX.out
              have e2 : hitsF gr z i rw = hitF (hitF (z.set i 0) m)  (i + 1) := by
                unfold hitsF
                simp only [if_pos HUU.out, if_pos hDn, HM.out, Nat.add_sub_cancel]
              rw [e2]
              exact congrArg (fun q => (q, y.set i 0, _)) e1
            clear hDn ht
            go_wp2_with fail
            clear s0 s1 s2 s3
            obtain ⟨Vg, Vo, _, _, Vn, Vc, Ve, Vhin, _, Vhg, Vhc, _, _⟩ := hit_place HOA4.out (k := t) HTZ.out
            cases Ve
            obtain ⟨Vv, Vhv⟩ : ∃ v, (hitF (z.set i 0) m).getD t 0 = v := ⟨_, rfl⟩
            have Va : 0 ≤ Vv ∧ Vv ≤ 100000 := Vhv ▸ age_getD HZV.out t
            have Vhc' : A4.cell? ⟨gj, oj + t, none⟩ = some (.int .i64 Vv) := Vhv ▸ Vhc
            have Vw : IntKind.i64.wrap (Vv + 1) = Vv + 1 := IntWalk.i64_in _ (by omega)
            obtain ⟨Vt0, Vt1, Vt2⟩ := cells3 pA4
            have Vz0 := fun q : Later A4 => q.cell Vt2
            have Vz1 := fun q : Later A4 => q.cell Vhc'
            have VHV := Lib.hid Vhv
            clear Vhc Vhc' Vt0 Vt1 Vt2 Vhv Va
            refine wp_region_later_tail 16 (by kernel_rfl) (by kernel_rfl) ?_
            simp only [List.take_succ_cons, List.take_zero, List.drop_succ_cons, List.drop_zero]
            repeat (go_big_quiet_step (fail))
            refine wpQuiet_nil ?_
            rintro A5 ⟨zz, hz⟩
            generalize hTT : (if 100000 < Vv + 1 then (100000 : Int) else Vv + 1) = Vu
            have VHU : Hid (ageP 1 Vv = Vu) := hTT
            have hbR : Below A4.heap.size A4 A5 := hz ▸ zz.ok
            have HOA5 := Lib.hid (arrK.ownBelow HOA4.out hbR)
            have pA5 := keep_block hbR pA4 (lt_of_block pA4)
            have qA5 := keep_block hbR qA4 (lt_of_block qA4)
            have HONA5 : Hid (OnlyS S w A5) := HONA4.out.trans (Below.onlyS hbR)
            clear Vz0 Vz1 hz zz hbR hTT
            obtain ⟨Vg', Vo', _, _, Vn', Vc', Ve', _, _, Vhg', _, Vhf', Vhset⟩ := hit_place HOA5.out (k := t) HTZ.out
            cases Ve'
            obtain ⟨A6, hA6⟩ : ∃ u, A5.setCell ⟨gj, oj + t, none⟩ (.int .i64 (Vu)) = u := ⟨_, rfl⟩
            have HOA6 : Hid (arrK.own A6 S [.slice a0 n0 c0, .slice (some ⟨gy, oy, none⟩) n1 c1, .slice (some ⟨gj, oj, none⟩) n2 c2] (X, y.set i 0, hitF (hitF (z.set i 0) m) t)) := by
              have := Vhset Vu
              show arrK.own A6 S _ (X, y.set i 0, (hitF (z.set i 0) m).set t (ageP 1 ((hitF (z.set i 0) m).getD t 0)))
              rw [VHV.out, VHU.out]
              exact hA6 ▸ this
            have pA6 : A6.heap[P]? = _ := hA6 ▸ keep_set pA5 (fun e => HPS.out (e ▸ Vhg'))
            have qA6 : A6.heap[w.heap.size]? = _ := hA6 ▸ keep_set qA5 (fun e => HGS.out (e ▸ Vhg'))
            have HONA6 : Hid (OnlyS S w A6) := hA6 ▸ HONA5.out.setCell Vhg' _
            clear Vhset
            go_wp2_with fail
            (try simp only [Exit.inBlock, Exit.then])
            refine bodyPost_end (v := .tuple #[]) (by simp [results, Tryd.results66]) rfl ⟨rfl, ?_, HONA6.out⟩
            rw [HE.out]
            exact HOA6.out
          case neg =>
            have dD : decide (rw < gr - 1) = false := decide_eq_false hDn
            have HE : Hid (senseF gr k la lh (x, y, z) i rw = (X, y.set i 0, hitF (z.set i 0) m)) := by
              show (_, _, _) = _
              skip
              have e1 : (if goneF la lh (x, y, z) i then spoilN x (i * (k : Int).toNat) (k : Int).toNat else x) = X := HX.out
              have e2 : hitsF gr z i rw = hitF (z.set i 0) m := by
                unfold hitsF
                simp only [if_pos HUU.out, if_neg hDn, HM.out, Nat.add_sub_cancel]
              rw [e2]
              exact congrArg (fun q => (q, y.set i 0, _)) e1
            clear hDn
            go_wp2_with fail
            (try simp only [Exit.inBlock, Exit.then])
            refine bodyPost_end (v := .tuple #[]) (by simp [results, Tryd.results66]) rfl ⟨rfl, ?_, HONA4.out⟩
            rw [HE.out]
            exact HOA4.out
        case neg =>
          have dU : decide (0 < rw) = false := decide_eq_false hU
          have HUU := Lib.hid hU
          clear hU
          by_cases hDn : rw < gr - 1
          case pos =>
            have dD : decide (rw < gr - 1) = true := decide_eq_true hDn
            obtain ⟨t, ht⟩ : ∃ t, t = i + 1 := ⟨_, rfl⟩
            have wt : IntKind.i64.wrap ((i : Int) + 1) = (t : Int) := by rw [ht]; exact (IntWalk.i64_in _ (by have := HI8.out; omega)).trans (by omega)
            have HTZ : Hid (t < (z.set i 0).length) := by show _ < _; rw [List.length_set]; have := HDN.out hDn; have := HLZ.out; omega
            have HZV : Hid (∀ v ∈ z.set i 0, AgeOk v) := age_set HZ.out i ⟨by decide, by decide⟩
            have HE : Hid (senseF gr k la lh (x, y, z) i rw = (X, y.set i 0, hitF (z.set i 0) t)) := by
              show (_, _, _) = _
              rw [ht]
              have e1 : (if goneF la lh (x, y, z) i then spoilN x (i * (k : Int).toNat) (k : Int).toNat else x) = X := HX.out
              have e2 : hitsF gr z i rw = hitF (z.set i 0)  (i + 1) := by
                unfold hitsF
                simp only [if_neg HUU.out, if_pos hDn]
              rw [e2]
              exact congrArg (fun q => (q, y.set i 0, _)) e1
            clear hDn ht
            go_wp2_with fail
            clear p0 p1 p2 r0 r1 r2
            clear s0 s1 s2 s3
            obtain ⟨Vg, Vo, _, _, Vn, Vc, Ve, Vhin, _, Vhg, Vhc, _, _⟩ := hit_place HOA2.out (k := t) HTZ.out
            cases Ve
            obtain ⟨Vv, Vhv⟩ : ∃ v, (z.set i 0).getD t 0 = v := ⟨_, rfl⟩
            have Va : 0 ≤ Vv ∧ Vv ≤ 100000 := Vhv ▸ age_getD HZV.out t
            have Vhc' : A2.cell? ⟨gj, oj + t, none⟩ = some (.int .i64 Vv) := Vhv ▸ Vhc
            have Vw : IntKind.i64.wrap (Vv + 1) = Vv + 1 := IntWalk.i64_in _ (by omega)
            obtain ⟨Vt0, Vt1, Vt2⟩ := cells3 pA2
            have Vz0 := fun q : Later A2 => q.cell Vt2
            have Vz1 := fun q : Later A2 => q.cell Vhc'
            have VHV := Lib.hid Vhv
            clear Vhc Vhc' Vt0 Vt1 Vt2 Vhv Va
            refine wp_region_later_tail 16 (by kernel_rfl) (by kernel_rfl) ?_
            simp only [List.take_succ_cons, List.take_zero, List.drop_succ_cons, List.drop_zero]
            repeat (go_big_quiet_step (fail))
            refine wpQuiet_nil ?_
            rintro A5 ⟨zz, hz⟩
            generalize hTT : (if 100000 < Vv + 1 then (100000 : Int) else Vv + 1) = Vu
            have VHU : Hid (ageP 1 Vv = Vu) := hTT
            have hbR : Below A2.heap.size A2 A5 := hz ▸ zz.ok
            have HOA5 := Lib.hid (arrK.ownBelow HOA2.out hbR)
            have pA5 := keep_block hbR pA2 (lt_of_block pA2)
            have qA5 := keep_block hbR qA2 (lt_of_block qA2)
            have HONA5 : Hid (OnlyS S w A5) := HONA2.out.trans (Below.onlyS hbR)
            clear Vz0 Vz1 hz zz hbR hTT
            obtain ⟨Vg', Vo', _, _, Vn', Vc', Ve', _, _, Vhg', _, Vhf', Vhset⟩ := hit_place HOA5.out (k := t) HTZ.out
            cases Ve'
            obtain ⟨A6, hA6⟩ : ∃ u, A5.setCell ⟨gj, oj + t, none⟩ (.int .i64 (Vu)) = u := ⟨_, rfl⟩
            have HOA6 : Hid (arrK.own A6 S [.slice a0 n0 c0, .slice (some ⟨gy, oy, none⟩) n1 c1, .slice (some ⟨gj, oj, none⟩) n2 c2] (X, y.set i 0, hitF (z.set i 0) t)) := by
              have := Vhset Vu
              show arrK.own A6 S _ (X, y.set i 0, (z.set i 0).set t (ageP 1 ((z.set i 0).getD t 0)))
              rw [VHV.out, VHU.out]
              exact hA6 ▸ this
            have pA6 : A6.heap[P]? = _ := hA6 ▸ keep_set pA5 (fun e => HPS.out (e ▸ Vhg'))
            have qA6 : A6.heap[w.heap.size]? = _ := hA6 ▸ keep_set qA5 (fun e => HGS.out (e ▸ Vhg'))
            have HONA6 : Hid (OnlyS S w A6) := hA6 ▸ HONA5.out.setCell Vhg' _
            clear Vhset
            go_wp2_with fail
            (try simp only [Exit.inBlock, Exit.then])
            refine bodyPost_end (v := .tuple #[]) (by simp [results, Tryd.results66]) rfl ⟨rfl, ?_, HONA6.out⟩
            rw [HE.out]
            exact HOA6.out
          case neg =>
            have dD : decide (rw < gr - 1) = false := decide_eq_false hDn
            have HE : Hid (senseF gr k la lh (x, y, z) i rw = (X, y.set i 0, z.set i 0)) := by
              show (_, _, _) = _
              skip
              have e1 : (if goneF la lh (x, y, z) i then spoilN x (i * (k : Int).toNat) (k : Int).toNat else x) = X := HX.out
              have e2 : hitsF gr z i rw = z.set i 0 := by
                unfold hitsF
                simp only [if_neg HUU.out, if_neg hDn]
              rw [e2]
              exact congrArg (fun q => (q, y.set i 0, _)) e1
            clear hDn
            go_wp2_with fail
            (try simp only [Exit.inBlock, Exit.then])
            refine bodyPost_end (v := .tuple #[]) (by simp [results, Tryd.results66]) rfl ⟨rfl, ?_, HONA2.out⟩
            rw [HE.out]
            exact HOA2.out
      have hI : decide ((k : Int) < (D : Int)) = true := decide_eq_true (by omega)
      have wk : IntKind.i64.wrap ((k : Int) + 1) = (k : Int) + 1 := IntWalk.i64_in _ (by omega)
      obtain ⟨j, hj⟩ : ∃ j, bb + k = j := ⟨_, rfl⟩
      have HJ := Lib.hid hj
      have wj : IntKind.i64.wrap ((bb : Int) + (k : Int)) = (j : Int) := by
        have e : (bb : Int) + (k : Int) = (j : Int) := by omega
        rw [e]
        exact IntWalk.i64_in _ (by omega)
      have hjl : j < x.length := by have := HCL.out; have := HBB.out; omega
      obtain ⟨c, hc⟩ : ∃ c, x.getD j ([], false) = c := ⟨_, rfl⟩
      have hcm : c ∈ x := by rw [← hc, List.getD_eq_getElem?_getD, List.getElem?_eq_getElem hjl]; exact List.getElem_mem _
      have hsym := HSY.out c hcm
      obtain ⟨s, pz⟩ := c
      have hs11 : (s.length : Int) = 11 := hsym.2
      have hc2 : (spoilN x bb k).getD j ([], false) = (s, pz) := (spoilN_far _ (Or.inr (by omega))).trans hc
      obtain ⟨gA, oA, nA, cA, _, _, aS, nS, kS, T, eA, hjn, hgA, hnm, hnS, hcell, hT, hoS, hback⟩ := cell_place HOwr.out (j := j) (by show _ < (spoilN x bb k).length; rw [spoilN_length]; exact hjl) hc2
      cases eA
      obtain ⟨gs, os, rfl, hgs, hcs0, hfs0, _, _⟩ := ints_place hoS (k := 0) (by show 0 < s.length; omega)
      have hgsS : gs ∈ S := (hT gs hgs).1
      obtain ⟨p0, p1, p2⟩ := cells3 pwr
      have z0 := fun q : Later wr => q.cell p0
      have z1 := fun q : Later wr => q.cell x3
      have z2 := fun q : Later wr => q.cell hcell
      have HBK := Lib.hid hback
      have HOS := Lib.hid hoS
      have HT := Lib.hid hT
      have HSYM := Lib.hid hsym
      have HC2 := Lib.hid hc2
      clear hback hoS hT hsym hcs0 hfs0 hcell hcm hc hc2 p0 p1 p2 x0 x1 x2
      go_wp2_with fail
      refine wp_region_later (by kernel_rfl) (by kernel_rfl) ?_
      repeat (go_big_quiet_step (fail))
      refine wpQuiet_nil ?_
      rintro R0 ⟨zz, hz⟩
      have hbR : Below wr.heap.size wr R0 := hz ▸ zz.ok
      clear z0 z1 z2 hz zz x3
      have HOS2 := Lib.hid (intsK.ownBelow HOS.out hbR)
      have pR0 := keep_block hbR pwr (lt_of_block pwr)
      have qR0 := keep_block hbR qwr (lt_of_block qwr)
      have HNR : Hid (OnlyS S B0 R0) := HON.out.trans (Below.onlyS hbR)
      have HBK2 : Hid (∀ w' y', OnlyS T R0 w' → intsK.own w' T [.slice (some ⟨gs, os, none⟩) nS kS] y' → arrK.own w' S _ ((spoilN x bb k).set j (y', pz), y, z)) := fun w' y' ho hy => HBK.out w' y' ((Below.onlyS hbR).trans ho) hy
      obtain ⟨Y0, hY0⟩ : ∃ Y0 : Nat, s.getD 0 0 = (Y0 : Int) ∧ Y0 < 16 := by
        have := HSYM.out.1 (s.getD 0 0) (by rw [List.getD_eq_getElem?_getD, List.getElem?_eq_getElem (by omega)]; exact List.getElem_mem _)
        exact ⟨(s.getD 0 0).toNat, by have h1 := this.1; have h2 := this.2; omega, by have h1 := this.1; have h2 := this.2; omega⟩
      obtain ⟨Y1, hY1⟩ : ∃ Y1 : Nat, s.getD 1 0 = (Y1 : Int) ∧ Y1 < 16 := by
        have := HSYM.out.1 (s.getD 1 0) (by rw [List.getD_eq_getElem?_getD, List.getElem?_eq_getElem (by omega)]; exact List.getElem_mem _)
        exact ⟨(s.getD 1 0).toNat, by have h1 := this.1; have h2 := this.2; omega, by have h1 := this.1; have h2 := this.2; omega⟩
      have x5 : bits .xor .i64 (Y0 : Int) 5 = xr (Y0 : Int) 5 := i64_xor_nat Y0 5 (by omega) (by decide)
      have x10 : bits .xor .i64 (Y1 : Int) 10 = xr (Y1 : Int) 10 := i64_xor_nat Y1 10 (by omega) (by decide)
      obtain ⟨_, _, e0, _, hc0, hf0, _, hset0⟩ := ints_place HOS2.out (k := 0) (by show 0 < s.length; omega)
      cases e0
      rw [hY0.1] at hc0
      obtain ⟨R1, hR1⟩ : ∃ u, R0.setCell ⟨gs, os, none⟩ (.int .i64 (xr (Y0 : Int) 5)) = u := ⟨_, rfl⟩
      have HO1 : Hid (intsK.own R1 T _ (s.set 0 (xr (Y0 : Int) 5))) := hR1 ▸ hset0 (xr (Y0 : Int) 5)
      have hN1 : OnlyS T R0 R1 := hR1 ▸ (OnlyS.refl T R0).setCell (p := ⟨gs, os, none⟩) hgs _
      obtain ⟨_, _, e1, _, hc1, hf1, _, hset1⟩ := ints_place HO1.out (k := 1) (by show 1 < (s.set 0 _).length; rw [List.length_set]; omega)
      cases e1
      have hgd : (s.set 0 (xr (Y0 : Int) 5)).getD 1 0 = (Y1 : Int) := by rw [List.getD_eq_getElem?_getD, List.getElem?_set_ne (by decide), ← List.getD_eq_getElem?_getD]; exact hY1.1
      rw [hgd] at hc1
      obtain ⟨R2, hR2⟩ : ∃ u, R1.setCell ⟨gs, os + 1, none⟩ (.int .i64 (xr (Y1 : Int) 10)) = u := ⟨_, rfl⟩
      have hO2 : intsK.own R2 T [.slice (some ⟨gs, os, none⟩) nS kS] (spoil s) := by
        unfold spoil
        rw [hY0.1, hY1.1]
        exact hR2 ▸ hset1 (xr (Y1 : Int) 10)
      have hN2 : OnlyS T R0 R2 := hR2 ▸ hN1.setCell (p := ⟨gs, os + 1, none⟩) hgs _
      have HEND : Hid (arrK.own R2 S [.slice (some ⟨gA, oA, none⟩) n0 c0, .slice a1 n1 c1, .slice a2 n2 c2] (spoilN x bb (k + 1), y, z)) := by
        have := HBK2.out R2 _ hN2 hO2
        show arrK.own R2 S [.slice (some ⟨gA, oA, none⟩) n0 c0, .slice a1 n1 c1, .slice a2 n2 c2] ((spoilN x bb k).set (bb + k) (spoil ((spoilN x bb k).getD (bb + k) ([], false)).1, ((spoilN x bb k).getD (bb + k) ([], false)).2), y, z)
        rw [HJ.out, HC2.out]
        exact this
      have HNE : Hid (OnlyS S B0 R2) := HNR.out.trans (hN2.mono (fun b hb => (HT.out b hb).1))
      have hlS : nS = 11 := by omega
      have hc0' : R0.cell? ⟨gs, os, none⟩ = some (.int .i64 (Y0 : Int)) := hc0
      have hf0' : R0.frozen? ⟨gs, os, none⟩ = false := hf0
      clear hset0 hset1 hO2 hN1 hN2 hgd hbR hc0 hf0 hY0 hY1
      go_wp2_with fail
      go_roundw
      case rel => exact ⟨k + 1, by omega, by go_num, HEND.out, HNE.out⟩
      case measure => simp [intOf]; omega
  case neg =>
    have KG := Lib.hid (decide_eq_false hG)
    clear x0 x1 t0 t1 t2 y0 y1
    go_enter Tryd.func66, Tryd.ntmps66
    go_wp2_with fail
    refine wp_region_later (by kernel_rfl) (by kernel_rfl) ?_
    repeat (go_big_quiet_step (first | (go_at_call 97; exact Gives.later _ (specGone_is ga gb gr D la lh (arrK.below (arrK.read HOw1.out) (Later.ok _)) HIY.out HIZ.out false KG.out))))
    refine wpQuiet_nil ?_
    rintro B0 ⟨zz, hz⟩
    have hbR : Below w1.heap.size w1 B0 := hz ▸ zz.ok
    have HOB0 := Lib.hid (arrK.ownBelow HOw1.out hbR)
    have pB0 := keep_block hbR pw1 (lt_of_block pw1)
    have qB0 := keep_block hbR qw1 (lt_of_block qw1)
    have HONB0 : Hid (OnlyS S w B0) := HONw1.out.trans (Below.onlyS hbR)
    clear zx0 zx1 zx2 zx3 zy0 zy1 zt0 zt1 zt2 x2 x3 hz zz hbR
    obtain ⟨X, hX⟩ : ∃ X, x = X := ⟨_, rfl⟩
    have HX : Hid ((if goneF la lh (x, y, z) i then spoilN x (i * (D : Int).toNat) (D : Int).toNat else x) = X) := (if_neg hG).trans hX
    rw [hX] at HOB0
    clear hG hX
    obtain ⟨gy, oy, _, ny, cy, _, ey, hiny, _, hgy, _, hfy, hsety⟩ := age_place HOB0.out (k := i) HIY.out
    cases ey
    obtain ⟨A1, hA1⟩ : ∃ u, B0.setCell ⟨gy, oy + i, none⟩ (.int .i64 0) = u := ⟨_, rfl⟩
    have HOA1 : Hid (arrK.own A1 S _ (X, y.set i 0, z)) := hA1 ▸ hsety 0
    have pA1 : A1.heap[P]? = _ := hA1 ▸ keep_set pB0 (fun e => HPS.out (e ▸ hgy))
    have qA1 : A1.heap[w.heap.size]? = _ := hA1 ▸ keep_set qB0 (fun e => HGS.out (e ▸ hgy))
    have HONA1 : Hid (OnlyS S w A1) := hA1 ▸ HONB0.out.setCell hgy _
    clear hsety
    obtain ⟨gj, oj, _, _, nj, cj, ej, hinj, _, hgj, _, hfj, hsetj⟩ := hit_place HOA1.out (k := i) HIZ.out
    cases ej
    obtain ⟨A2, hA2⟩ : ∃ u, A1.setCell ⟨gj, oj + i, none⟩ (.int .i64 (0)) = u := ⟨_, rfl⟩
    have HOA2 : Hid (arrK.own A2 S _ (X, y.set i 0, z.set i 0)) := hA2 ▸ hsetj (0)
    have pA2 : A2.heap[P]? = _ := hA2 ▸ keep_set pA1 (fun e => HPS.out (e ▸ hgj))
    have qA2 : A2.heap[w.heap.size]? = _ := hA2 ▸ keep_set qA1 (fun e => HGS.out (e ▸ hgj))
    have HONA2 : Hid (OnlyS S w A2) := hA2 ▸ HONA1.out.setCell hgj _
    clear hsetj
    obtain ⟨p0, p1, p2⟩ := cells3 pB0
    obtain ⟨r0, r1, r2⟩ := cells3 pA1
    obtain ⟨s0, s1, s2, s3⟩ := cells4 qA2
    by_cases hU : 0 < rw
    case pos =>
      have dU : decide (0 < rw) = true := decide_eq_true hU
      obtain ⟨m, hm⟩ : ∃ m, i = m + 1 := ⟨i - 1, by have := HUP.out hU; omega⟩
      have HM := Lib.hid hm
      have wm : IntKind.i64.wrap ((i : Int) - 1) = (m : Int) := by rw [hm]; exact (IntWalk.i64_in _ (by have := HI8.out; omega)).trans (by omega)
      have HMZ : Hid (m < (z.set i 0).length) := by show _ < _; rw [List.length_set]; have := HIZ.out; omega
      have HZU : Hid (∀ v ∈ z.set i 0, AgeOk v) := age_set HZ.out i ⟨by decide, by decide⟩
      have HUU := Lib.hid hU
      clear hm hU
      go_wp2_with fail
      clear p0 p1 p2 r0 r1 r2
      obtain ⟨Ug, Uo, _, _, Un, Uc, Ue, Uhin, _, Uhg, Uhc, _, _⟩ := hit_place HOA2.out (k := m) HMZ.out
      cases Ue
      obtain ⟨Uv, Uhv⟩ : ∃ v, (z.set i 0).getD m 0 = v := ⟨_, rfl⟩
      have Ua : 0 ≤ Uv ∧ Uv ≤ 100000 := Uhv ▸ age_getD HZU.out m
      have Uhc' : A2.cell? ⟨gj, oj + m, none⟩ = some (.int .i64 Uv) := Uhv ▸ Uhc
      have Uw : IntKind.i64.wrap (Uv + 1) = Uv + 1 := IntWalk.i64_in _ (by omega)
      obtain ⟨Ut0, Ut1, Ut2⟩ := cells3 pA2
      have Uz0 := fun q : Later A2 => q.cell Ut2
      have Uz1 := fun q : Later A2 => q.cell Uhc'
      have UHV := Lib.hid Uhv
      clear Uhc Uhc' Ut0 Ut1 Ut2 Uhv Ua
      refine wp_region_later_tail 16 (by kernel_rfl) (by kernel_rfl) ?_
      simp only [List.take_succ_cons, List.take_zero, List.drop_succ_cons, List.drop_zero]
      repeat (go_big_quiet_step (fail))
      refine wpQuiet_nil ?_
      rintro A3 ⟨zz, hz⟩
      generalize hTT : (if 100000 < Uv + 1 then (100000 : Int) else Uv + 1) = Uu
      have UHU : Hid (ageP 1 Uv = Uu) := hTT
      have hbR : Below A2.heap.size A2 A3 := hz ▸ zz.ok
      have HOA3 := Lib.hid (arrK.ownBelow HOA2.out hbR)
      have pA3 := keep_block hbR pA2 (lt_of_block pA2)
      have qA3 := keep_block hbR qA2 (lt_of_block qA2)
      have HONA3 : Hid (OnlyS S w A3) := HONA2.out.trans (Below.onlyS hbR)
      clear Uz0 Uz1 hz zz hbR hTT
      obtain ⟨Ug', Uo', _, _, Un', Uc', Ue', _, _, Uhg', _, Uhf', Uhset⟩ := hit_place HOA3.out (k := m) HMZ.out
      cases Ue'
      obtain ⟨A4, hA4⟩ : ∃ u, A3.setCell ⟨gj, oj + m, none⟩ (.int .i64 (Uu)) = u := ⟨_, rfl⟩
      have HOA4 : Hid (arrK.own A4 S [.slice a0 n0 c0, .slice (some ⟨gy, oy, none⟩) n1 c1, .slice (some ⟨gj, oj, none⟩) n2 c2] (X, y.set i 0, hitF (z.set i 0) m)) := by
        have := Uhset Uu
        show arrK.own A4 S _ (X, y.set i 0, (z.set i 0).set m (ageP 1 ((z.set i 0).getD m 0)))
        rw [UHV.out, UHU.out]
        exact hA4 ▸ this
      have pA4 : A4.heap[P]? = _ := hA4 ▸ keep_set pA3 (fun e => HPS.out (e ▸ Uhg'))
      have qA4 : A4.heap[w.heap.size]? = _ := hA4 ▸ keep_set qA3 (fun e => HGS.out (e ▸ Uhg'))
      have HONA4 : Hid (OnlyS S w A4) := hA4 ▸ HONA3.out.setCell Uhg' _
      clear Uhset
      clear s0 s1 s2 s3
      obtain ⟨s0, s1, s2, s3⟩ := cells4 qA4
      by_cases hDn : rw < gr - 1
      case pos =>
        have dD : decide (rw < gr - 1) = true := decide_eq_true hDn
        obtain ⟨t, ht⟩ : ∃ t, t = i + 1 := ⟨_, rfl⟩
        have wt : IntKind.i64.wrap ((i : Int) + 1) = (t : Int) := by rw [ht]; exact (IntWalk.i64_in _ (by have := HI8.out; omega)).trans (by omega)
        have HTZ : Hid (t < (hitF (z.set i 0) m).length) := by show _ < _; simp only [hitF, List.length_set]; have := HDN.out hDn; have := HLZ.out; omega
        have HZV : Hid (∀ v ∈ hitF (z.set i 0) m, AgeOk v) := age_hit HZU.out m
        have HE : Hid (senseF gr D la lh (x, y, z) i rw = (X, y.set i 0, hitF (hitF (z.set i 0) m) t)) := by
          show (_, _, _) = _
          rw [ht]
          have e1 : (if goneF la lh (x, y, z) i then spoilN x (i * (D : Int).toNat) (D : Int).toNat else x) = X := HX.out
          have e2 : hitsF gr z i rw = hitF (hitF (z.set i 0) m)  (i + 1) := by
            unfold hitsF
            simp only [if_pos HUU.out, if_pos hDn, HM.out, Nat.add_sub_cancel]
          rw [e2]
          exact congrArg (fun q => (q, y.set i 0, _)) e1
        clear hDn ht
        go_wp2_with fail
        clear s0 s1 s2 s3
        obtain ⟨Vg, Vo, _, _, Vn, Vc, Ve, Vhin, _, Vhg, Vhc, _, _⟩ := hit_place HOA4.out (k := t) HTZ.out
        cases Ve
        obtain ⟨Vv, Vhv⟩ : ∃ v, (hitF (z.set i 0) m).getD t 0 = v := ⟨_, rfl⟩
        have Va : 0 ≤ Vv ∧ Vv ≤ 100000 := Vhv ▸ age_getD HZV.out t
        have Vhc' : A4.cell? ⟨gj, oj + t, none⟩ = some (.int .i64 Vv) := Vhv ▸ Vhc
        have Vw : IntKind.i64.wrap (Vv + 1) = Vv + 1 := IntWalk.i64_in _ (by omega)
        obtain ⟨Vt0, Vt1, Vt2⟩ := cells3 pA4
        have Vz0 := fun q : Later A4 => q.cell Vt2
        have Vz1 := fun q : Later A4 => q.cell Vhc'
        have VHV := Lib.hid Vhv
        clear Vhc Vhc' Vt0 Vt1 Vt2 Vhv Va
        refine wp_region_later_tail 16 (by kernel_rfl) (by kernel_rfl) ?_
        simp only [List.take_succ_cons, List.take_zero, List.drop_succ_cons, List.drop_zero]
        repeat (go_big_quiet_step (fail))
        refine wpQuiet_nil ?_
        rintro A5 ⟨zz, hz⟩
        generalize hTT : (if 100000 < Vv + 1 then (100000 : Int) else Vv + 1) = Vu
        have VHU : Hid (ageP 1 Vv = Vu) := hTT
        have hbR : Below A4.heap.size A4 A5 := hz ▸ zz.ok
        have HOA5 := Lib.hid (arrK.ownBelow HOA4.out hbR)
        have pA5 := keep_block hbR pA4 (lt_of_block pA4)
        have qA5 := keep_block hbR qA4 (lt_of_block qA4)
        have HONA5 : Hid (OnlyS S w A5) := HONA4.out.trans (Below.onlyS hbR)
        clear Vz0 Vz1 hz zz hbR hTT
        obtain ⟨Vg', Vo', _, _, Vn', Vc', Ve', _, _, Vhg', _, Vhf', Vhset⟩ := hit_place HOA5.out (k := t) HTZ.out
        cases Ve'
        obtain ⟨A6, hA6⟩ : ∃ u, A5.setCell ⟨gj, oj + t, none⟩ (.int .i64 (Vu)) = u := ⟨_, rfl⟩
        have HOA6 : Hid (arrK.own A6 S [.slice a0 n0 c0, .slice (some ⟨gy, oy, none⟩) n1 c1, .slice (some ⟨gj, oj, none⟩) n2 c2] (X, y.set i 0, hitF (hitF (z.set i 0) m) t)) := by
          have := Vhset Vu
          show arrK.own A6 S _ (X, y.set i 0, (hitF (z.set i 0) m).set t (ageP 1 ((hitF (z.set i 0) m).getD t 0)))
          rw [VHV.out, VHU.out]
          exact hA6 ▸ this
        have pA6 : A6.heap[P]? = _ := hA6 ▸ keep_set pA5 (fun e => HPS.out (e ▸ Vhg'))
        have qA6 : A6.heap[w.heap.size]? = _ := hA6 ▸ keep_set qA5 (fun e => HGS.out (e ▸ Vhg'))
        have HONA6 : Hid (OnlyS S w A6) := hA6 ▸ HONA5.out.setCell Vhg' _
        clear Vhset
        go_wp2_with fail
        (try simp only [Exit.inBlock, Exit.then])
        refine bodyPost_end (v := .tuple #[]) (by simp [results, Tryd.results66]) rfl ⟨rfl, ?_, HONA6.out⟩
        rw [HE.out]
        exact HOA6.out
      case neg =>
        have dD : decide (rw < gr - 1) = false := decide_eq_false hDn
        have HE : Hid (senseF gr D la lh (x, y, z) i rw = (X, y.set i 0, hitF (z.set i 0) m)) := by
          show (_, _, _) = _
          skip
          have e1 : (if goneF la lh (x, y, z) i then spoilN x (i * (D : Int).toNat) (D : Int).toNat else x) = X := HX.out
          have e2 : hitsF gr z i rw = hitF (z.set i 0) m := by
            unfold hitsF
            simp only [if_pos HUU.out, if_neg hDn, HM.out, Nat.add_sub_cancel]
          rw [e2]
          exact congrArg (fun q => (q, y.set i 0, _)) e1
        clear hDn
        go_wp2_with fail
        (try simp only [Exit.inBlock, Exit.then])
        refine bodyPost_end (v := .tuple #[]) (by simp [results, Tryd.results66]) rfl ⟨rfl, ?_, HONA4.out⟩
        rw [HE.out]
        exact HOA4.out
    case neg =>
      have dU : decide (0 < rw) = false := decide_eq_false hU
      have HUU := Lib.hid hU
      clear hU
      by_cases hDn : rw < gr - 1
      case pos =>
        have dD : decide (rw < gr - 1) = true := decide_eq_true hDn
        obtain ⟨t, ht⟩ : ∃ t, t = i + 1 := ⟨_, rfl⟩
        have wt : IntKind.i64.wrap ((i : Int) + 1) = (t : Int) := by rw [ht]; exact (IntWalk.i64_in _ (by have := HI8.out; omega)).trans (by omega)
        have HTZ : Hid (t < (z.set i 0).length) := by show _ < _; rw [List.length_set]; have := HDN.out hDn; have := HLZ.out; omega
        have HZV : Hid (∀ v ∈ z.set i 0, AgeOk v) := age_set HZ.out i ⟨by decide, by decide⟩
        have HE : Hid (senseF gr D la lh (x, y, z) i rw = (X, y.set i 0, hitF (z.set i 0) t)) := by
          show (_, _, _) = _
          rw [ht]
          have e1 : (if goneF la lh (x, y, z) i then spoilN x (i * (D : Int).toNat) (D : Int).toNat else x) = X := HX.out
          have e2 : hitsF gr z i rw = hitF (z.set i 0)  (i + 1) := by
            unfold hitsF
            simp only [if_neg HUU.out, if_pos hDn]
          rw [e2]
          exact congrArg (fun q => (q, y.set i 0, _)) e1
        clear hDn ht
        go_wp2_with fail
        clear p0 p1 p2 r0 r1 r2
        clear s0 s1 s2 s3
        obtain ⟨Vg, Vo, _, _, Vn, Vc, Ve, Vhin, _, Vhg, Vhc, _, _⟩ := hit_place HOA2.out (k := t) HTZ.out
        cases Ve
        obtain ⟨Vv, Vhv⟩ : ∃ v, (z.set i 0).getD t 0 = v := ⟨_, rfl⟩
        have Va : 0 ≤ Vv ∧ Vv ≤ 100000 := Vhv ▸ age_getD HZV.out t
        have Vhc' : A2.cell? ⟨gj, oj + t, none⟩ = some (.int .i64 Vv) := Vhv ▸ Vhc
        have Vw : IntKind.i64.wrap (Vv + 1) = Vv + 1 := IntWalk.i64_in _ (by omega)
        obtain ⟨Vt0, Vt1, Vt2⟩ := cells3 pA2
        have Vz0 := fun q : Later A2 => q.cell Vt2
        have Vz1 := fun q : Later A2 => q.cell Vhc'
        have VHV := Lib.hid Vhv
        clear Vhc Vhc' Vt0 Vt1 Vt2 Vhv Va
        refine wp_region_later_tail 16 (by kernel_rfl) (by kernel_rfl) ?_
        simp only [List.take_succ_cons, List.take_zero, List.drop_succ_cons, List.drop_zero]
        repeat (go_big_quiet_step (fail))
        refine wpQuiet_nil ?_
        rintro A5 ⟨zz, hz⟩
        generalize hTT : (if 100000 < Vv + 1 then (100000 : Int) else Vv + 1) = Vu
        have VHU : Hid (ageP 1 Vv = Vu) := hTT
        have hbR : Below A2.heap.size A2 A5 := hz ▸ zz.ok
        have HOA5 := Lib.hid (arrK.ownBelow HOA2.out hbR)
        have pA5 := keep_block hbR pA2 (lt_of_block pA2)
        have qA5 := keep_block hbR qA2 (lt_of_block qA2)
        have HONA5 : Hid (OnlyS S w A5) := HONA2.out.trans (Below.onlyS hbR)
        clear Vz0 Vz1 hz zz hbR hTT
        obtain ⟨Vg', Vo', _, _, Vn', Vc', Ve', _, _, Vhg', _, Vhf', Vhset⟩ := hit_place HOA5.out (k := t) HTZ.out
        cases Ve'
        obtain ⟨A6, hA6⟩ : ∃ u, A5.setCell ⟨gj, oj + t, none⟩ (.int .i64 (Vu)) = u := ⟨_, rfl⟩
        have HOA6 : Hid (arrK.own A6 S [.slice a0 n0 c0, .slice (some ⟨gy, oy, none⟩) n1 c1, .slice (some ⟨gj, oj, none⟩) n2 c2] (X, y.set i 0, hitF (z.set i 0) t)) := by
          have := Vhset Vu
          show arrK.own A6 S _ (X, y.set i 0, (z.set i 0).set t (ageP 1 ((z.set i 0).getD t 0)))
          rw [VHV.out, VHU.out]
          exact hA6 ▸ this
        have pA6 : A6.heap[P]? = _ := hA6 ▸ keep_set pA5 (fun e => HPS.out (e ▸ Vhg'))
        have qA6 : A6.heap[w.heap.size]? = _ := hA6 ▸ keep_set qA5 (fun e => HGS.out (e ▸ Vhg'))
        have HONA6 : Hid (OnlyS S w A6) := hA6 ▸ HONA5.out.setCell Vhg' _
        clear Vhset
        go_wp2_with fail
        (try simp only [Exit.inBlock, Exit.then])
        refine bodyPost_end (v := .tuple #[]) (by simp [results, Tryd.results66]) rfl ⟨rfl, ?_, HONA6.out⟩
        rw [HE.out]
        exact HOA6.out
      case neg =>
        have dD : decide (rw < gr - 1) = false := decide_eq_false hDn
        have HE : Hid (senseF gr D la lh (x, y, z) i rw = (X, y.set i 0, z.set i 0)) := by
          show (_, _, _) = _
          skip
          have e1 : (if goneF la lh (x, y, z) i then spoilN x (i * (D : Int).toNat) (D : Int).toNat else x) = X := HX.out
          have e2 : hitsF gr z i rw = z.set i 0 := by
            unfold hitsF
            simp only [if_neg HUU.out, if_neg hDn]
          rw [e2]
          exact congrArg (fun q => (q, y.set i 0, _)) e1
        clear hDn
        go_wp2_with fail
        (try simp only [Exit.inBlock, Exit.then])
        refine bodyPost_end (v := .tuple #[]) (by simp [results, Tryd.results66]) rfl ⟨rfl, ?_, HONA2.out⟩
        rw [HE.out]
        exact HOA2.out

end Go.Proofs.YtfpfgaifhmgpiaaDoor

namespace Go.Proofs.YtfpfgaifhmgpiaaDoor
open Go.RowKit Go.PlainAid

set_option linter.unusedVariables false

/-- Four variables made, one after another. -/
theorem alloc4 {w u : World} {A B C D : Obj} (h : (((w.alloc A).alloc B).alloc C).alloc D = u) :
    u.heap[w.heap.size]? = some A ∧ u.heap[w.heap.size + 1]? = some B ∧ u.heap[w.heap.size + 1 + 1]? = some C ∧ u.heap[w.heap.size + 1 + 1 + 1]? = some D ∧ Below w.heap.size w u := by
  subst h
  obtain ⟨h1, h2, h3, h4⟩ := alloc3 (w := w) (A := A) (B := B) (C := C) rfl
  have s1 := size_alloc w A
  have s2 := size_alloc (w.alloc A) B
  have s3 := size_alloc ((w.alloc A).alloc B) C
  have e : (((w.alloc A).alloc B).alloc C).heap.size = w.heap.size + 1 + 1 + 1 := by omega
  refine ⟨(heap_alloc_old _ _ (by omega)).trans h1, (heap_alloc_old _ _ (by omega)).trans h2, (heap_alloc_old _ _ (by omega)).trans h3, ?_, h4.alloc (by omega) _⟩
  rw [← e]
  exact heap_alloc_new _ _

theorem xr_el {v : Int} {m : Nat} (h : El v) (hm : m < 16) : El (xr v m) := by
  obtain ⟨h0, h1⟩ := h
  have : v.toNat ^^^ m < 16 := Nat.xor_lt_two_pow (n := 4) (by omega) (by omega)
  exact ⟨by unfold xr; omega, by unfold xr; omega⟩

theorem els_getD {l : List Int} (h : Els l) (k : Nat) : El (l.getD k 0) := by
  by_cases hk : k < l.length
  · rw [List.getD_eq_getElem?_getD, List.getElem?_eq_getElem hk]
    exact h _ (List.getElem_mem _)
  · rw [List.getD_eq_getElem?_getD, List.getElem?_eq_none (by omega)]
    exact ⟨by decide, by decide⟩

theorem els_setI {l : List Int} (h : Els l) (k : Nat) {u : Int} (hu : El u) : Els (l.set k u) := by
  intro v hv
  rcases List.mem_or_eq_of_mem_set hv with h1 | rfl
  · exact h v h1
  · exact hu

theorem spoil_ok {s : List Int} {n : Int} (h : SymOk s n) : SymOk (spoil s) n := by
  refine ⟨els_setI (els_setI h.1 _ (xr_el (els_getD h.1 _) (by decide))) _ (xr_el (els_getD h.1 _) (by decide)), ?_⟩
  unfold spoil
  rw [List.length_set, List.length_set]
  exact h.2

theorem spoilN_ok {X : List (List Int × Bool)} {b k : Nat} (h : ∀ c ∈ X, SymOk c.1 11) (hk : b + k ≤ X.length) : ∀ c ∈ spoilN X b k, SymOk c.1 11 := by
  induction k with
  | zero => exact h
  | succ k ih =>
    have ih := ih (by omega)
    intro c hc
    rw [spoilN] at hc
    rcases List.mem_or_eq_of_mem_set hc with h1 | rfl
    · exact ih c h1
    · refine spoil_ok (ih _ ?_)
      rw [List.getD_eq_getElem?_getD, List.getElem?_eq_getElem (by rw [spoilN_length]; omega)]
      exact List.getElem_mem _

theorem hits_ok {gr : Int} {z : List Int} {i : Nat} {rw : Int} (h : ∀ v ∈ z, AgeOk v) : ∀ v ∈ hitsF gr z i rw, AgeOk v := by
  have h0 : ∀ v ∈ z.set i 0, AgeOk v := age_set h i ⟨by decide, by decide⟩
  unfold hitsF
  have h1 : ∀ v ∈ (if 0 < rw then hitF (z.set i 0) (i - 1) else z.set i 0), AgeOk v := by
    split
    · exact age_hit h0 _
    · exact h0
  show ∀ v ∈ (if rw < gr - 1 then hitF (if 0 < rw then hitF (z.set i 0) (i - 1) else z.set i 0) (i + 1) else (if 0 < rw then hitF (z.set i 0) (i - 1) else z.set i 0)), AgeOk v
  split
  · exact age_hit h1 _
  · exact h1

theorem hits_length (gr : Int) (z : List Int) (i : Nat) (rw : Int) : (hitsF gr z i rw).length = z.length := by
  unfold hitsF hitF
  simp only []
  split <;> split <;> simp only [List.length_set]

/-- A row sensed: the array stays valid. -/
theorem sense_ok {ga gb gr gd la lh rw : Int} {x : Arr} {i : Nat} (h : ArrOk ga gb gr gd x) (hb : i * gd.toNat + gd.toNat ≤ x.1.length) : ArrOk ga gb gr gd (senseF gr gd la lh x i rw) := by
  obtain ⟨h0, h1, h2, h3, h4, h5, h6⟩ := h
  refine ⟨h0, ?_, ?_, ?_, ?_, age_set h5 i ⟨by decide, by decide⟩, hits_ok h6⟩
  · show (((if goneF la lh x i then _ else _ : List (List Int × Bool)).length : Nat) : Int) = _
    split
    · rw [spoilN_length]; exact h1
    · exact h1
  · show ((x.2.1.set i 0).length : Int) = _
    rw [List.length_set]; exact h2
  · show (hitsF gr x.2.2 i rw).length = (x.2.1.set i 0).length
    rw [hits_length, List.length_set]; exact h3
  · show ∀ c ∈ (if goneF la lh x i then _ else _ : List (List Int × Bool)), _
    split
    · exact spoilN_ok h4 hb
    · exact h4

/-- All rows of a bank sensed, one after another. -/
def bankF (gr gd la lh : Int) (x : Arr) (b : Nat) : Nat → Arr
  | 0 => x
  | k + 1 => senseF gr gd la lh (bankF gr gd la lh x b k) (b + k) k

theorem bank_ok {ga gb gr gd la lh : Int} {x : Arr} {b k : Nat} (h : ArrOk ga gb gr gd x) (hb : (b + k) * gd.toNat ≤ x.1.length) : ArrOk ga gb gr gd (bankF gr gd la lh x b k) := by
  induction k with
  | zero => exact h
  | succ k ih =>
    have e : (b + (k + 1)) * gd.toNat = (b + k) * gd.toNat + gd.toNat := by rw [← Nat.add_assoc, Nat.add_mul (b + k) 1, Nat.one_mul]
    have ih := ih (by omega)
    refine sense_ok ih ?_
    have h1 : ((bankF gr gd la lh x b k).1.length : Int) = x.1.length := ih.2.1.trans h.2.1.symm
    omega

def sensedF (ga gb gr gd la lh : Int) (x : Arr) (bk rw : Int) : Arr := if ArrOk ga gb gr gd x ∧ AdOk ga gb gr gd bk rw 0 then senseF gr gd la lh x (bk * gr + rw).toNat rw else x

def sensedB (ga gb gr gd la lh : Int) (x : Arr) (bk : Int) : Arr := if ArrOk ga gb gr gd x ∧ AdOk ga gb gr gd bk 0 0 then bankF gr gd la lh x (bk * gr).toNat gr.toNat else x

end Go.Proofs.YtfpfgaifhmgpiaaDoor

namespace Go.Proofs.YtfpfgaifhmgpiaaDoor
open Go.RowKit Go.PlainAid

set_option linter.unusedVariables false

def FlipOk (ga gb gr gd : Int) (x : Arr) (bx br bc ch u : Int) : Prop := ArrOk ga gb gr gd x ∧ AdOk ga gb gr gd bx br bc ∧ (0 ≤ ch ∧ ch ≤ 10) ∧ El u

instance (ga gb gr gd : Int) (x : Arr) (bx br bc ch u : Int) : Decidable (FlipOk ga gb gr gd x bx br bc ch u) := inferInstanceAs (Decidable (_ ∧ _))

/-- The place of a cell that exists. -/
theorem cell_index {ga gb gr gd bx br bc : Int} {x : Arr} (h : ArrOk ga gb gr gd x) (hr : AdOk ga gb gr gd bx br bc) :
    ∃ j : Nat, idxF ga gb gr gd bx br bc = j ∧ j < x.1.length := by
  have e : idxF ga gb gr gd bx br bc = (bx * gr + br) * gd + bc := if_pos hr
  obtain ⟨hg, h0, _⟩ := h
  obtain ⟨⟨b0, b1⟩, ⟨r0, r1⟩, ⟨d0, d1⟩⟩ := hr
  obtain ⟨_, _, ⟨h3, h4⟩, h5, h6⟩ := hg
  have e1 : 0 ≤ bx * gr := Int.mul_nonneg b0 (by omega)
  have e2 : bx * gr + gr ≤ bankN ga gb gr gd * gr := by
    have : (bx + 1) * gr ≤ bankN ga gb gr gd * gr := Int.mul_le_mul_of_nonneg_right (by omega) (by omega)
    rw [Int.add_mul, Int.one_mul] at this
    exact this
  unfold lineN at h0
  rw [e]
  generalize bx * gr = q at e1 e2 ⊢
  generalize bankN ga gb gr gd * gr = K at e2 h0
  have e3 : (q + br + 1) * gd ≤ K * gd := Int.mul_le_mul_of_nonneg_right (by omega) (by omega)
  rw [Int.add_mul, Int.one_mul, ← h0] at e3
  have e4 : 0 ≤ (q + br) * gd := Int.mul_nonneg (by omega) (by omega)
  generalize (q + br) * gd = m at e3 e4 ⊢
  exact ⟨(m + bc).toNat, by omega, by omega⟩

end Go.Proofs.YtfpfgaifhmgpiaaDoor

namespace Go.Proofs.YtfpfgaifhmgpiaaDoor
open Go.RowKit Go.PlainAid

set_option linter.unusedVariables false

/-- A cell of the call's own, and whether it was there. -/
def GivesC (c : List Int × Bool) (ok : Bool) (w : World) (e : Ending) (w' : World) : Prop :=
  ∃ cs S, e = .returned (.tuple #[.agg cs.toArray, .bool ok]) ∧ cellK.own w' S cs c ∧ (∀ b ∈ S, w.heap.size ≤ b) ∧ Below w.heap.size w w'

theorem ints_none (w : World) : intsK.own w [] [.slice none 0 0] [] :=
  ⟨none, 0, 0, [], [], rfl, rfl, ⟨Nat.le_refl _, Nat.zero_le _⟩, ⟨rfl, rfl⟩, List.nodup_nil, .inl ⟨rfl, fun _ => rfl, rfl⟩⟩

def LoadOk (ga gb gr gd : Int) (x : Arr) (bx br bc : Int) : Prop := ArrOk ga gb gr gd x ∧ AdOk ga gb gr gd bx br bc

instance (ga gb gr gd : Int) (x : Arr) (bx br bc : Int) : Decidable (LoadOk ga gb gr gd x bx br bc) := inferInstanceAs (Decidable (_ ∧ _))

def loadF (ga gb gr gd : Int) (x : Arr) (bx br bc : Int) : (List Int × Bool) × Bool :=
  if LoadOk ga gb gr gd x bx br bc then (x.1.getD (idxF ga gb gr gd bx br bc).toNat ([], false), true) else (([], false), false)

end Go.Proofs.YtfpfgaifhmgpiaaDoor

namespace Go.Proofs.YtfpfgaifhmgpiaaDoor
open Go.RowKit Go.PlainAid

set_option linter.unusedVariables false

/-- A new array: all symbols and counts zero. -/
def newA (ga gb gr gd : Int) : Arr :=
  (List.replicate (lineN ga gb gr gd).toNat (List.replicate 11 0, false), List.replicate (bankN ga gb gr gd * gr).toNat 0, List.replicate (bankN ga gb gr gd * gr).toNat 0)

theorem made_ints {w : World} {B n : Nat} {v : Value} (h : w.ownsRow B 3 1 v n (madeCells #[.int .i64 0] n).toList) : intK.Bld 3 B w [] v (List.replicate n (0 : Int)) :=
  Kn.Bld.made (k := intK) (z := (0 : Int)) (zc := [.int .i64 0]) ⟨rfl, rfl⟩ (by decide) (by show w.ownsRow B _ 1 v n (madeCells _ (n * 1)).toList; rw [Nat.mul_one]; exact h)

set_option maxHeartbeats 16000000 in
set_option maxRecDepth 100000 in
theorem specArrayNew_is (ga gb gr gd : Int) (w : World) :
    Calls Tryd.prog 16 #[.agg #[.int .i64 ga, .int .i64 gb, .int .i64 gr, .int .i64 gd]] w (GivesS arrK (newA ga gb gr gd) w) := by
  obtain ⟨L, hL⟩ : ∃ L : Nat, lineN ga gb gr gd = L := ⟨(lineN ga gb gr gd).toNat, by have := (lineN_range ga gb gr gd).1; omega⟩
  have hL2 : L ≤ 1024 := by have := (lineN_range ga gb gr gd).2; omega
  have HL := Lib.hid hL
  clear hL
  obtain ⟨i0, hi, hz0, hz1, hz2⟩ := info_parts infoCell
  obtain ⟨i1, hj, hj0, hj1, hj2⟩ := info_parts infoI
  go_enter Tryd.func16, Tryd.ntmps16
  go_wp2_with fail
  obtain ⟨u, hu⟩ : ∃ u, ((w.alloc (.cells #[.int .i64 ga, .int .i64 gb, .int .i64 gr, .int .i64 gd] 25)).alloc (.cells #[.slice none 0 0, .slice none 0 0, .slice none 0 0] 31)).alloc (.cells #[.slice none 0 0, .slice none 0 0, .slice none 0 0] 31) = u := ⟨_, rfl⟩
  rw [hu]
  obtain ⟨gu, ru, pu, hbu⟩ := alloc3 hu
  have HBU := Lib.hid hbu
  have HSU : Hid (w.heap.size + 1 + 1 < u.heap.size) := lt_of_block pu
  clear hbu
  go_loopw [4] (fun i wr => ∃ (k : Nat) (v : Value) (S : List Nat), k ≤ L ∧ i = .int .i64 k ∧ cellK.Bld 41 u.heap.size wr S v (List.replicate k (List.replicate 11 0, false)) ∧ wr.heap[w.heap.size + 1 + 1]? = some (.cells #[v, .slice none 0 0, .slice none 0 0] 31 (0, 0)) ∧ Only (w.heap.size + 1 + 1) u wr) (fun i _ => L + 1 - (intOf i).toNat)
  case atStart => exact ⟨0, .slice none 0 0, [], Nat.zero_le _, rfl, Kn.Bld.nil _ _ _ _, pu, Only.refl _ _⟩
  case round =>
    obtain ⟨k, v, S, hk, rfl, hbld, hgr, hon⟩ := hrel
    have g0 := (hon.block w.heap.size (lt_of_block gu) (by omega)).trans gu
    have r0 := (hon.block (w.heap.size + 1) (lt_of_block ru) (by omega)).trans ru
    have HON := Lib.hid hon
    have HBL := Lib.hid hbld
    clear hon hbld
    obtain ⟨x0, x1, x2, x3⟩ := cells4 g0
    by_cases hlt : k < L
    case neg =>
      obtain rfl : k = L := by omega
      have hI : decide ((k : Int) < (k : Int)) = false := decide_eq_false (by omega)
      go_wp2_with fail
      refine (specLine_is ga gb gr gd (k : Int) HL.out _).mono ?_
      rintro e w2 ⟨rfl, hb2⟩
      have pw2 := keep_block hb2 hgr (lt_of_block hgr)
      have gw2 := keep_block hb2 g0 (lt_of_block g0)
      have rw2 := keep_block hb2 r0 (lt_of_block r0)
      have hbl := Kn.Bld.below HBL.out hb2
      obtain ⟨va, vc, hv, _, _⟩ := hbl.shape
      rw [List.length_replicate] at hv
      subst hv
      obtain ⟨T0, own0, hT0⟩ := hbl.own
      have hN0 : ∀ b ∈ T0, w.heap.size + 1 + 1 < b := fun b hb => by have := hT0 b hb; have := HSU.out; omega
      have hlt0 : ∀ b ∈ T0, b < w2.heap.size := fun b hb => cellsK.lt own0 b hb
      have hPw2 : w.heap.size + 1 + 1 < w2.heap.size := lt_of_block pw2
      have HBw2 : Hid (Below w.heap.size w w2) := (HBU.out.trans (HON.out.below (by omega) HBU.out.size)).trans (hb2.mono (HBU.out.trans (HON.out.below (by omega) HBU.out.size)).size)
      obtain ⟨N, hN⟩ : ∃ N, bankN ga gb gr gd = N := ⟨_, rfl⟩
      have HBN := Lib.hid hN
      obtain ⟨M, hM⟩ : ∃ M : Nat, N * gr = M := ⟨(N * gr).toNat, by
        by_cases hg : GeoOk ga gb gr gd
        · have := rowsN_range hg; rw [hN] at this; omega
        · have : N = 0 := by rw [← hN]; exact if_neg hg
          rw [this, Int.zero_mul]; rfl⟩
      have hM128 : M ≤ 128 := by
        by_cases hg : GeoOk ga gb gr gd
        · have := rowsN_range hg; rw [hN] at this; omega
        · have : N = 0 := by rw [← hN]; exact if_neg hg
          rw [this, Int.zero_mul] at hM; omega
      have HE : Hid (newA ga gb gr gd = (List.replicate k (List.replicate 11 0, false), List.replicate M 0, List.replicate M 0)) := by
        show _ = _
        unfold newA
        rw [HL.out, hN, hM]
        rfl
      have wM : IntKind.i64.wrap ((M : Nat) : Int) = (M : Int) := IntWalk.i64_in _ (by omega)
      have dM : decide ((M : Int) < 0) = false := decide_eq_false (by omega)
      clear hb2 hbl HBL HON hgr g0 r0 hN x0 x1 x2 x3
      obtain ⟨x0, x1, x2, x3⟩ := cells4 gw2
      have zx0 := fun q : Later w2 => q.cell x0
      have zx1 := fun q : Later w2 => q.cell x1
      have zx2 := fun q : Later w2 => q.cell x2
      have zx3 := fun q : Later w2 => q.cell x3
      clear x0 x1 x2 x3
      go_wp2_with fail
      refine wp_region_later (by kernel_rfl) (by kernel_rfl) ?_
      repeat (go_big_quiet_step (first | (go_at_call 12; exact Gives.later _ (specBank_is ga gb gr gd N HBN.out _))))
      refine wpQuiet_nil ?_
      rintro w3 ⟨zz, hz⟩
      have hb3 : Below w2.heap.size w2 w3 := hz ▸ zz.ok
      have pw3 := keep_block hb3 pw2 (lt_of_block pw2)
      have gw3 := keep_block hb3 gw2 (lt_of_block gw2)
      have rw3 := keep_block hb3 rw2 (lt_of_block rw2)
      clear zx0 zx1 zx2 zx3 hz zz
      obtain ⟨x0, x1, x2, x3⟩ := cells4 gw3
      by_cases hg : GeoOk ga gb gr gd
      case neg =>
        have KG := Lib.hid (decide_eq_false hg)
        have hM0 : M = 0 := by
          have : N = 0 := by rw [← HBN.out]; exact if_neg hg
          rw [this, Int.zero_mul] at hM; omega
        subst hM0
        clear hg
        go_wp2_with fail
        refine (specGeoOk_is ga gb gr gd false KG.out _).mono ?_
        rintro e w4 ⟨rfl, hb4⟩
        have pw4 := keep_block hb4 pw3 (lt_of_block pw3)
        have rw4 := keep_block hb4 rw3 (lt_of_block rw3)
        have hbz : Below w2.heap.size w2 w4 := hb3.trans (hb4.mono hb3.size)
        have hw2le : w2.heap.size ≤ w4.heap.size := hbz.size
        have HBw4 : Hid (Below w.heap.size w w4) := HBw2.out.trans (hbz.mono HBw2.out.size)
        clear hb3 hb4 pw3 gw3 rw3 x0 x1 x2 x3 pw2 gw2 rw2
        have hW2 : w2.heap.size ≤ w4.heap.size := hw2le
        have HO0w4 := Lib.hid (cellsK.ownBelow own0 hbz)
        go_wp2_with (at_make; refine wpList_make_full _ rfl _ _ 29 rfl w4.heap.size 3 i1 (.int .i64 0) 1 Tryd.underlying29 hj hj0 hj1 _ _ _ _ 0 rfl rfl rfl rfl (by rw [hj2]; omega) (by unfold maxLen; omega) (Nat.le_refl _) ?_)
        intro w5 hownI hgrI
        have hb : Below w4.heap.size w4 w5 := (Below.refl _ _).grown hgrI (Nat.le_refl _) (fun k hk => by cases hk)
        obtain ⟨T1, own1, hT1⟩ := (made_ints hownI).own
        have hlt1 : ∀ b ∈ T1, b < w5.heap.size := fun b hb => intsK.lt own1 b hb
        have pw5 := keep_block hb pw4 (lt_of_block pw4)
        have rw5 := keep_block hb rw4 (lt_of_block rw4)
        have HBw5 : Hid (Below w.heap.size w w5) := HBw4.out.trans (hb.mono HBw4.out.size)
        have hPw5 : w.heap.size + 1 + 1 < w5.heap.size := lt_of_block pw5
        have hszw5 : w4.heap.size ≤ w5.heap.size := hb.size
        have HO0w5 := Lib.hid (cellsK.ownBelow HO0w4.out hb)
        have HO1w5 := Lib.hid own1
        have hN1 : ∀ b ∈ T1, w.heap.size + 1 + 1 < b := fun b hb => by have := hT1 b hb; have := hPw2; omega
        clear hb hownI hgrI own1
        obtain ⟨w6, hw6⟩ : ∃ q, w5.setCell ⟨w.heap.size + 1 + 1, 1, none⟩ (.slice (some ⟨w4.heap.size, 0, none⟩) 0 0) = q := ⟨_, rfl⟩
        have pw6 := hw6 ▸ set_cells pw5 1 (.slice (some ⟨w4.heap.size, 0, none⟩) 0 0)
        have rw6 : w6.heap[w.heap.size + 1]? = _ := hw6 ▸ keep_set rw5 (show w.heap.size + 1 ≠ w.heap.size + 1 + 1 by omega)
        have HBw6 : Hid (Below w.heap.size w w6) := hw6 ▸ HBw5.out.setCell (by show w.heap.size ≤ w.heap.size + 1 + 1; omega) _
        have HSw6 : Hid (w6.heap.size = w5.heap.size) := by show _ = _; rw [← hw6]; simp [World.setCell]
        have fw6 := thawed pw5 1
        obtain ⟨kw6a, kw6b, kw6c⟩ := cells3 pw5
        have HO0w6 := Lib.hid (hw6 ▸ cellsK.ownSet HO0w5.out (p := ⟨w.heap.size + 1 + 1, 1, none⟩) (fun b hb => by have := hN0 b hb; show b ≠ w.heap.size + 1 + 1; omega) (.slice (some ⟨w4.heap.size, 0, none⟩) 0 0))
        have HO1w6 := Lib.hid (hw6 ▸ intsK.ownSet HO1w5.out (p := ⟨w.heap.size + 1 + 1, 1, none⟩) (fun b hb => by have := hN1 b hb; show b ≠ w.heap.size + 1 + 1; omega) (.slice (some ⟨w4.heap.size, 0, none⟩) 0 0))
        go_wp2_with (at_make; refine wpList_make_full _ rfl _ _ 29 rfl w6.heap.size 3 i1 (.int .i64 0) 1 Tryd.underlying29 hj hj0 hj1 _ _ _ _ 0 rfl rfl rfl rfl (by rw [hj2]; omega) (by unfold maxLen; omega) (Nat.le_refl _) ?_)
        intro w7 hownI hgrI
        have hb : Below w6.heap.size w6 w7 := (Below.refl _ _).grown hgrI (Nat.le_refl _) (fun k hk => by cases hk)
        obtain ⟨T2, own2, hT2⟩ := (made_ints hownI).own
        have hlt2 : ∀ b ∈ T2, b < w7.heap.size := fun b hb => intsK.lt own2 b hb
        have pw7 := keep_block hb pw6 (lt_of_block pw6)
        have rw7 := keep_block hb rw6 (lt_of_block rw6)
        have HBw7 : Hid (Below w.heap.size w w7) := HBw6.out.trans (hb.mono HBw6.out.size)
        have hPw7 : w.heap.size + 1 + 1 < w7.heap.size := lt_of_block pw7
        have hszw7 : w6.heap.size ≤ w7.heap.size := hb.size
        have HO0w7 := Lib.hid (cellsK.ownBelow HO0w6.out hb)
        have HO1w7 := Lib.hid (intsK.ownBelow HO1w6.out hb)
        have HO2w7 := Lib.hid own2
        have hN2 : ∀ b ∈ T2, w.heap.size + 1 + 1 < b := fun b hb => by have := hT2 b hb; have := hPw2; have := HSw6.out; omega
        clear hb hownI hgrI own2
        obtain ⟨w8, hw8⟩ : ∃ q, w7.setCell ⟨w.heap.size + 1 + 1, 2, none⟩ (.slice (some ⟨w6.heap.size, 0, none⟩) 0 0) = q := ⟨_, rfl⟩
        have pw8 := hw8 ▸ set_cells pw7 2 (.slice (some ⟨w6.heap.size, 0, none⟩) 0 0)
        have rw8 : w8.heap[w.heap.size + 1]? = _ := hw8 ▸ keep_set rw7 (show w.heap.size + 1 ≠ w.heap.size + 1 + 1 by omega)
        have HBw8 : Hid (Below w.heap.size w w8) := hw8 ▸ HBw7.out.setCell (by show w.heap.size ≤ w.heap.size + 1 + 1; omega) _
        have HSw8 : Hid (w8.heap.size = w7.heap.size) := by show _ = _; rw [← hw8]; simp [World.setCell]
        have fw8 := thawed pw7 2
        obtain ⟨kw8a, kw8b, kw8c⟩ := cells3 pw7
        have HO0w8 := Lib.hid (hw8 ▸ cellsK.ownSet HO0w7.out (p := ⟨w.heap.size + 1 + 1, 2, none⟩) (fun b hb => by have := hN0 b hb; show b ≠ w.heap.size + 1 + 1; omega) (.slice (some ⟨w6.heap.size, 0, none⟩) 0 0))
        have HO1w8 := Lib.hid (hw8 ▸ intsK.ownSet HO1w7.out (p := ⟨w.heap.size + 1 + 1, 2, none⟩) (fun b hb => by have := hN1 b hb; show b ≠ w.heap.size + 1 + 1; omega) (.slice (some ⟨w6.heap.size, 0, none⟩) 0 0))
        have HO2w8 := Lib.hid (hw8 ▸ intsK.ownSet HO2w7.out (p := ⟨w.heap.size + 1 + 1, 2, none⟩) (fun b hb => by have := hN2 b hb; show b ≠ w.heap.size + 1 + 1; omega) (.slice (some ⟨w6.heap.size, 0, none⟩) 0 0))
        obtain ⟨c0, c1, c2⟩ := cells3 pw8
        have e0 := thawed rw8 0
        have e1 := thawed rw8 1
        have e2 := thawed rw8 2
        obtain ⟨s0, s1, s2⟩ := cells3 rw8
        have o9 := set_cells (set_cells (set_cells rw8 0 (.slice va k vc)) 1 (.slice (some ⟨w4.heap.size, 0, none⟩) 0 0)) 2 (.slice (some ⟨w6.heap.size, 0, none⟩) 0 0)
        obtain ⟨t0, t1, t2⟩ := cells3 o9
        have q0 : ∀ b ∈ T0, b ≠ w.heap.size + 1 := fun b hb => by have := hN0 b hb; omega
        have q1 : ∀ b ∈ T1, b ≠ w.heap.size + 1 := fun b hb => by have := hN1 b hb; omega
        have q2 : ∀ b ∈ T2, b ≠ w.heap.size + 1 := fun b hb => by have := hN2 b hb; omega
        go_wp2_with fail
        (try simp only [Exit.inBlock, Exit.then])
        have hsw6 := HSw6.out
        have hsw8 := HSw8.out
        refine bodyPost_ret (v := .agg #[.slice va k vc, .slice (some ⟨w4.heap.size, 0, none⟩) 0 0, .slice (some ⟨w6.heap.size, 0, none⟩) 0 0]) ?_ rfl ⟨[.slice va k vc, .slice (some ⟨w4.heap.size, 0, none⟩) 0 0, .slice (some ⟨w6.heap.size, 0, none⟩) 0 0], T0 ++ (T1 ++ T2), rfl, ?_, fun b hb => ?_, ?_⟩
        · simp [results, Tryd.results16, go_sem, t0, t1, t2]
        · rw [HE.out]
          refine arr_of ?_ ?_ ?_ (nodup_of (cellsK.nodup HO0w8.out) (intsK.nodup HO1w8.out) (intsK.nodup HO2w8.out) (fun b hb hb' => ?_) (fun b hb hb' => ?_) (fun b hb hb' => ?_))
          · exact cellsK.ownSet (cellsK.ownSet (cellsK.ownSet HO0w8.out (fun b hb => q0 b hb) _) (fun b hb => q0 b hb) _) (fun b hb => q0 b hb) _
          · exact intsK.ownSet (intsK.ownSet (intsK.ownSet HO1w8.out (fun b hb => q1 b hb) _) (fun b hb => q1 b hb) _) (fun b hb => q1 b hb) _
          · exact intsK.ownSet (intsK.ownSet (intsK.ownSet HO2w8.out (fun b hb => q2 b hb) _) (fun b hb => q2 b hb) _) (fun b hb => q2 b hb) _
          · have := hT1 b hb; have := hlt0 b hb'; omega
          · have := hT2 b hb; have := hlt0 b hb'; omega
          · have := hT2 b hb; have := hlt1 b hb'; omega
        · rcases List.mem_append.1 hb with h | h
          · have := hN0 b h; omega
          · rcases List.mem_append.1 h with h | h
            · have := hN1 b h; omega
            · have := hN2 b h; omega
        · exact ((HBw8.out.setCell (by show w.heap.size ≤ w.heap.size + 1; omega) _).setCell (by show w.heap.size ≤ w.heap.size + 1; omega) _).setCell (by show w.heap.size ≤ w.heap.size + 1; omega) _
      case pos =>
        have KG := Lib.hid (decide_eq_true hg)
        clear hg
        go_wp2_with fail
        refine (specGeoOk_is ga gb gr gd true KG.out _).mono ?_
        rintro e w4 ⟨rfl, hb4⟩
        have pw4 := keep_block hb4 pw3 (lt_of_block pw3)
        have rw4 := keep_block hb4 rw3 (lt_of_block rw3)
        have hbz : Below w2.heap.size w2 w4 := hb3.trans (hb4.mono hb3.size)
        have hw2le : w2.heap.size ≤ w4.heap.size := hbz.size
        have HBw4 : Hid (Below w.heap.size w w4) := HBw2.out.trans (hbz.mono HBw2.out.size)
        clear hb3 hb4 pw3 gw3 rw3 x0 x1 x2 x3 pw2 gw2 rw2
        have hW2 : w2.heap.size ≤ w4.heap.size := hw2le
        have HO0w4 := Lib.hid (cellsK.ownBelow own0 hbz)
        go_wp2_with (at_make; refine wpList_make_full _ rfl _ _ 29 rfl w4.heap.size 3 i1 (.int .i64 0) 1 Tryd.underlying29 hj hj0 hj1 _ _ _ _ M rfl rfl rfl rfl (by rw [hj2]; omega) (by unfold maxLen; omega) (Nat.le_refl _) ?_)
        intro w5 hownI hgrI
        have hb : Below w4.heap.size w4 w5 := (Below.refl _ _).grown hgrI (Nat.le_refl _) (fun k hk => by cases hk)
        obtain ⟨T1, own1, hT1⟩ := (made_ints hownI).own
        have hlt1 : ∀ b ∈ T1, b < w5.heap.size := fun b hb => intsK.lt own1 b hb
        have pw5 := keep_block hb pw4 (lt_of_block pw4)
        have rw5 := keep_block hb rw4 (lt_of_block rw4)
        have HBw5 : Hid (Below w.heap.size w w5) := HBw4.out.trans (hb.mono HBw4.out.size)
        have hPw5 : w.heap.size + 1 + 1 < w5.heap.size := lt_of_block pw5
        have hszw5 : w4.heap.size ≤ w5.heap.size := hb.size
        have HO0w5 := Lib.hid (cellsK.ownBelow HO0w4.out hb)
        have HO1w5 := Lib.hid own1
        have hN1 : ∀ b ∈ T1, w.heap.size + 1 + 1 < b := fun b hb => by have := hT1 b hb; have := hPw2; omega
        clear hb hownI hgrI own1
        obtain ⟨w6, hw6⟩ : ∃ q, w5.setCell ⟨w.heap.size + 1 + 1, 1, none⟩ (.slice (some ⟨w4.heap.size, 0, none⟩) M M) = q := ⟨_, rfl⟩
        have pw6 := hw6 ▸ set_cells pw5 1 (.slice (some ⟨w4.heap.size, 0, none⟩) M M)
        have rw6 : w6.heap[w.heap.size + 1]? = _ := hw6 ▸ keep_set rw5 (show w.heap.size + 1 ≠ w.heap.size + 1 + 1 by omega)
        have HBw6 : Hid (Below w.heap.size w w6) := hw6 ▸ HBw5.out.setCell (by show w.heap.size ≤ w.heap.size + 1 + 1; omega) _
        have HSw6 : Hid (w6.heap.size = w5.heap.size) := by show _ = _; rw [← hw6]; simp [World.setCell]
        have fw6 := thawed pw5 1
        obtain ⟨kw6a, kw6b, kw6c⟩ := cells3 pw5
        have HO0w6 := Lib.hid (hw6 ▸ cellsK.ownSet HO0w5.out (p := ⟨w.heap.size + 1 + 1, 1, none⟩) (fun b hb => by have := hN0 b hb; show b ≠ w.heap.size + 1 + 1; omega) (.slice (some ⟨w4.heap.size, 0, none⟩) M M))
        have HO1w6 := Lib.hid (hw6 ▸ intsK.ownSet HO1w5.out (p := ⟨w.heap.size + 1 + 1, 1, none⟩) (fun b hb => by have := hN1 b hb; show b ≠ w.heap.size + 1 + 1; omega) (.slice (some ⟨w4.heap.size, 0, none⟩) M M))
        go_wp2_with (at_make; refine wpList_make_full _ rfl _ _ 29 rfl w6.heap.size 3 i1 (.int .i64 0) 1 Tryd.underlying29 hj hj0 hj1 _ _ _ _ M rfl rfl rfl rfl (by rw [hj2]; omega) (by unfold maxLen; omega) (Nat.le_refl _) ?_)
        intro w7 hownI hgrI
        have hb : Below w6.heap.size w6 w7 := (Below.refl _ _).grown hgrI (Nat.le_refl _) (fun k hk => by cases hk)
        obtain ⟨T2, own2, hT2⟩ := (made_ints hownI).own
        have hlt2 : ∀ b ∈ T2, b < w7.heap.size := fun b hb => intsK.lt own2 b hb
        have pw7 := keep_block hb pw6 (lt_of_block pw6)
        have rw7 := keep_block hb rw6 (lt_of_block rw6)
        have HBw7 : Hid (Below w.heap.size w w7) := HBw6.out.trans (hb.mono HBw6.out.size)
        have hPw7 : w.heap.size + 1 + 1 < w7.heap.size := lt_of_block pw7
        have hszw7 : w6.heap.size ≤ w7.heap.size := hb.size
        have HO0w7 := Lib.hid (cellsK.ownBelow HO0w6.out hb)
        have HO1w7 := Lib.hid (intsK.ownBelow HO1w6.out hb)
        have HO2w7 := Lib.hid own2
        have hN2 : ∀ b ∈ T2, w.heap.size + 1 + 1 < b := fun b hb => by have := hT2 b hb; have := hPw2; have := HSw6.out; omega
        clear hb hownI hgrI own2
        obtain ⟨w8, hw8⟩ : ∃ q, w7.setCell ⟨w.heap.size + 1 + 1, 2, none⟩ (.slice (some ⟨w6.heap.size, 0, none⟩) M M) = q := ⟨_, rfl⟩
        have pw8 := hw8 ▸ set_cells pw7 2 (.slice (some ⟨w6.heap.size, 0, none⟩) M M)
        have rw8 : w8.heap[w.heap.size + 1]? = _ := hw8 ▸ keep_set rw7 (show w.heap.size + 1 ≠ w.heap.size + 1 + 1 by omega)
        have HBw8 : Hid (Below w.heap.size w w8) := hw8 ▸ HBw7.out.setCell (by show w.heap.size ≤ w.heap.size + 1 + 1; omega) _
        have HSw8 : Hid (w8.heap.size = w7.heap.size) := by show _ = _; rw [← hw8]; simp [World.setCell]
        have fw8 := thawed pw7 2
        obtain ⟨kw8a, kw8b, kw8c⟩ := cells3 pw7
        have HO0w8 := Lib.hid (hw8 ▸ cellsK.ownSet HO0w7.out (p := ⟨w.heap.size + 1 + 1, 2, none⟩) (fun b hb => by have := hN0 b hb; show b ≠ w.heap.size + 1 + 1; omega) (.slice (some ⟨w6.heap.size, 0, none⟩) M M))
        have HO1w8 := Lib.hid (hw8 ▸ intsK.ownSet HO1w7.out (p := ⟨w.heap.size + 1 + 1, 2, none⟩) (fun b hb => by have := hN1 b hb; show b ≠ w.heap.size + 1 + 1; omega) (.slice (some ⟨w6.heap.size, 0, none⟩) M M))
        have HO2w8 := Lib.hid (hw8 ▸ intsK.ownSet HO2w7.out (p := ⟨w.heap.size + 1 + 1, 2, none⟩) (fun b hb => by have := hN2 b hb; show b ≠ w.heap.size + 1 + 1; omega) (.slice (some ⟨w6.heap.size, 0, none⟩) M M))
        obtain ⟨c0, c1, c2⟩ := cells3 pw8
        have e0 := thawed rw8 0
        have e1 := thawed rw8 1
        have e2 := thawed rw8 2
        obtain ⟨s0, s1, s2⟩ := cells3 rw8
        have o9 := set_cells (set_cells (set_cells rw8 0 (.slice va k vc)) 1 (.slice (some ⟨w4.heap.size, 0, none⟩) M M)) 2 (.slice (some ⟨w6.heap.size, 0, none⟩) M M)
        obtain ⟨t0, t1, t2⟩ := cells3 o9
        have q0 : ∀ b ∈ T0, b ≠ w.heap.size + 1 := fun b hb => by have := hN0 b hb; omega
        have q1 : ∀ b ∈ T1, b ≠ w.heap.size + 1 := fun b hb => by have := hN1 b hb; omega
        have q2 : ∀ b ∈ T2, b ≠ w.heap.size + 1 := fun b hb => by have := hN2 b hb; omega
        go_wp2_with fail
        (try simp only [Exit.inBlock, Exit.then])
        have hsw6 := HSw6.out
        have hsw8 := HSw8.out
        refine bodyPost_ret (v := .agg #[.slice va k vc, .slice (some ⟨w4.heap.size, 0, none⟩) M M, .slice (some ⟨w6.heap.size, 0, none⟩) M M]) ?_ rfl ⟨[.slice va k vc, .slice (some ⟨w4.heap.size, 0, none⟩) M M, .slice (some ⟨w6.heap.size, 0, none⟩) M M], T0 ++ (T1 ++ T2), rfl, ?_, fun b hb => ?_, ?_⟩
        · simp [results, Tryd.results16, go_sem, t0, t1, t2]
        · rw [HE.out]
          refine arr_of ?_ ?_ ?_ (nodup_of (cellsK.nodup HO0w8.out) (intsK.nodup HO1w8.out) (intsK.nodup HO2w8.out) (fun b hb hb' => ?_) (fun b hb hb' => ?_) (fun b hb hb' => ?_))
          · exact cellsK.ownSet (cellsK.ownSet (cellsK.ownSet HO0w8.out (fun b hb => q0 b hb) _) (fun b hb => q0 b hb) _) (fun b hb => q0 b hb) _
          · exact intsK.ownSet (intsK.ownSet (intsK.ownSet HO1w8.out (fun b hb => q1 b hb) _) (fun b hb => q1 b hb) _) (fun b hb => q1 b hb) _
          · exact intsK.ownSet (intsK.ownSet (intsK.ownSet HO2w8.out (fun b hb => q2 b hb) _) (fun b hb => q2 b hb) _) (fun b hb => q2 b hb) _
          · have := hT1 b hb; have := hlt0 b hb'; omega
          · have := hT2 b hb; have := hlt0 b hb'; omega
          · have := hT2 b hb; have := hlt1 b hb'; omega
        · rcases List.mem_append.1 hb with h | h
          · have := hN0 b h; omega
          · rcases List.mem_append.1 h with h | h
            · have := hN1 b h; omega
            · have := hN2 b h; omega
        · exact ((HBw8.out.setCell (by show w.heap.size ≤ w.heap.size + 1; omega) _).setCell (by show w.heap.size ≤ w.heap.size + 1; omega) _).setCell (by show w.heap.size ≤ w.heap.size + 1; omega) _
    have hI : decide ((k : Int) < (L : Int)) = true := decide_eq_true (by omega)
    have wk : IntKind.i64.wrap ((k : Int) + 1) = (k : Int) + 1 := IntWalk.i64_in _ (by omega)
    go_wp2_with fail
    refine (specLine_is ga gb gr gd (L : Int) HL.out _).mono ?_
    rintro e w2 ⟨rfl, hb2⟩
    have hg2 := keep_block hb2 hgr (lt_of_block hgr)
    have HBL2 := Lib.hid (Kn.Bld.below HBL.out hb2)
    have HON2 : Hid (Only (w.heap.size + 1 + 1) u w2) := HON.out.trans ⟨hb2.os, hb2.tape, hb2.output, hb2.size, fun b hb _ => hb2.block b hb⟩
    clear HBL HON g0 r0 hgr x0 x1 x2 x3 hb2
    obtain ⟨y0, y1, y2⟩ := cells3 hg2
    obtain ⟨xs, hown, howns, hndS, hgeS, hvS⟩ := HBL2.out
    go_wp2_with fail
    refine wp_region_float (A := ?A) [.h, .h, .t, .t, .t, .t, .h, .e] (by kernel_rfl) (by kernel_rfl) (fun q => q.cell? ⟨w.heap.size + 1 + 1, 0, none⟩ = some v) ?hC ?hH ?hT
    case hC => exact y0
    case hH =>
      intro q hq
      have z0 := fun t : Same q => t.cell hq
      simp only [headsOf]
      repeat (go_big_quiet_step (fail))
      refine wpQuiet_nil ?_
      exact rfl
    case hT =>
      simp only [chainT]
      have y0' : w2.drew.cell? ⟨w.heap.size + 1 + 1, 0, none⟩ = some v := y0
      clear y0 y1 y2
      go_wp2_with (at_make; refine wpList_make_full _ rfl _ _ 29 rfl w2.heap.size 3 i1 (.int .i64 0) 1 Tryd.underlying29 hj hj0 hj1 _ _ _ _ 11 rfl rfl rfl rfl (by rw [hj2]; omega) (by unfold maxLen; omega) (Nat.le_refl _) ?_)
      intro w4 hownI hgrI
      have hbw : Below w2.heap.size w2 w4 := by
        have h0 : Below w2.heap.size w2 w2.drew := ⟨rfl, rfl, rfl, Nat.le_refl _, fun _ _ => rfl⟩
        exact h0.grown hgrI (Nat.le_refl _) (fun k hk => by cases hk)
      have made := Kn.Bld.made (k := intK) (T := 3) (z := (0 : Int)) (zc := [.int .i64 0]) (w := w4) ⟨rfl, rfl⟩ (by decide) hownI
      obtain ⟨T4, own4i, hT4⟩ := made.own
      have own4 := cell_of false own4i
      have hT4' : ∀ b ∈ T4, w2.heap.size ≤ b := hT4
      have a0 := (hbw.cell (World.block_lt_of_cell? _ _ y0')).trans y0'
      have g4 := keep_block hbw hg2 (lt_of_block hg2)
      have hown4 := ownsRow_below hown hbw
      have hlt4 := cellK.owns_lt howns
      have howns4 := cellK.owns_same howns (fun b hb => hbw.block b (hlt4 b hb))
      have hbA : Below w4.heap.size w4 (w4.alloc (.cells #[.slice (some ⟨w2.heap.size, 0, none⟩) 11 11, .bool false] 41)) := (Below.refl _ _).alloc (Nat.le_refl _) _
      have d0 := (hbA.cell (World.block_lt_of_cell? _ _ a0)).trans a0
      have g5 := keep_block hbA g4 (lt_of_block g4)
      have howns5 := cellK.owns_same howns4 (fun b hb => hbA.block b (by have := hlt4 b hb; have := hbw.size; omega))
      have own5 := cellK.ownBelow own4 hbA
      have hvb : ∀ j, Value.ownBlock v = some j → u.heap.size ≤ j ∧ j < w2.heap.size := fun j hj => World.ownsRow.lt hown j hj
      have hus : u.heap.size ≤ w2.heap.size := HON2.out.size
      have HTL := Lib.hid (show (List.replicate k (List.replicate 11 (0 : Int), false)).length = k from List.length_replicate)
      clear y0'
      refine stepQ_normal ⟨a0, ?_⟩
      go_wp2_with fail
      refine stepQ_normal ⟨a0, ?_⟩
      go_wp2_with fail
      refine stepQ_normal ⟨d0, ?_⟩
      go_wp2_with (at_builtin; refine wpList_append_own_at _ rfl _ _ 28 rfl u.heap.size 41 i0 (.agg #[.slice none 0 0, .bool false]) 2 32 Tryd.underlying28 hi hz0 hz1 hz2 rfl (by decide) _ _ _ rfl (World.ownsRow.alloc hown4 _) ⟨w4.heap.size, 0, none⟩ 1 1 [.slice (some ⟨w2.heap.size, 0, none⟩) 11 11, .bool false] rfl rfl (World.news_of_block (heap_alloc_new w4 _)) (by intro q hq; simp at hq; rcases hq with rfl | rfl <;> rfl) (by rw [HTL.out]; unfold maxLen; omega) (by rw [HTL.out]; omega) (by have := hbw.size; simp; omega) ?_)
      intro v' w6 hown6 hgrow _ hat
      have R : cellK.Bld 41 u.heap.size w6 (S ++ T4) v' (List.replicate k (List.replicate 11 (0 : Int), false) ++ [(List.replicate 11 (0 : Int), false)]) :=
        Kn.Bld.more (w := w4) (w2 := w4.alloc (.cells #[.slice (some ⟨w2.heap.size, 0, none⟩) 11 11, .bool false] 41)) howns5 hndS hgeS hvS own5 (fun b hb => by have := hT4' b hb; omega) (fun b hb hb' => by have := hT4' b hb; have := hlt4 b hb'; omega) (fun j hj hm => by have := hT4' j hm; have := (hvb j hj).2; omega) (by rw [HTL.out]; exact hown6) hgrow (by simpa using hat)
      have hsu := HSU.out
      have hgne : ∀ b, b < u.heap.size → some b ≠ Value.ownBlock v := fun b hb e => by have := (hvb b e.symm).1; omega
      have g6 := (hgrow.block (w.heap.size + 1 + 1) (lt_of_block g5) (hgne _ hsu)).trans g5
      have HON6 : Only (w.heap.size + 1 + 1) u w6 := by
        have hsz := hgrow.size
        have hsz2 := hbw.size
        refine ⟨(hgrow.os.trans (hbA.os.trans hbw.os)).trans HON2.out.os, (hgrow.tape.trans (hbA.tape.trans hbw.tape)).trans HON2.out.tape, (hgrow.output.trans (hbA.output.trans hbw.output)).trans HON2.out.output, by simp at hsz; omega, fun b hb hne => ?_⟩
        exact ((hgrow.block b (by simp; omega) (hgne b hb)).trans ((hbA.block b (by omega)).trans (hbw.block b (by omega)))).trans (HON2.out.block b hb hne)
      have e0 : w6.cell? ⟨w.heap.size + 1 + 1, 0, none⟩ = some v := (cells3 g6).1
      obtain ⟨aa, ag, hv', _, _⟩ := R.shape
      have hll : (List.replicate k (List.replicate 11 (0 : Int), false) ++ [(List.replicate 11 (0 : Int), false)]).length = k + 1 := by rw [List.length_append, List.length_replicate]; rfl
      rw [hll] at hv'
      subst hv'
      have f6 := thawed g6 0
      have g7 := set_cells g6 0 (.slice aa (k + 1) ag)
      have HR7 : Hid (cellK.Bld 41 u.heap.size (w6.setCell ⟨w.heap.size + 1 + 1, 0, none⟩ (.slice aa (k + 1) ag)) (S ++ T4) (.slice aa (k + 1) ag) (List.replicate (k + 1) (List.replicate 11 0, false))) := by
        show Kn.Bld _ _ _ _ _ _ _
        rw [List.replicate_succ']
        exact R.setCell hsu _
      have HON7 : Hid (Only (w.heap.size + 1 + 1) u (w6.setCell ⟨w.heap.size + 1 + 1, 0, none⟩ (.slice aa (k + 1) ag))) := HON6.setCell (p := ⟨w.heap.size + 1 + 1, 0, none⟩) rfl _
      clear a0 d0 g4 g5 R HON6 hown6 hgrow hown4 howns4 howns5 own5 own4 own4i made hownI hgrI hbA hat
      refine stepQ_normal ⟨e0, ?_⟩
      go_wp2_with fail
      refine stepQ_normal ⟨trivial, ?_⟩
      clear e0 f6
      go_wp2_with fail
      go_roundw
      case rel => exact ⟨k + 1, _, _, by omega, by go_num, HR7.out, g7, HON7.out⟩
      case measure => simp [intOf]; omega

end Go.Proofs.YtfpfgaifhmgpiaaDoor

namespace Go.Proofs.YtfpfgaifhmgpiaaDoor
open Go.RowKit Go.PlainAid

set_option linter.unusedVariables false

/-- A cell of an array of the call's own is put by another. -/
theorem cell_put {w : World} {S : List Nat} {cs : List Value} {x : Arr} (h : arrK.own w S cs x) {j : Nat} (hj : j < x.1.length) :
    ∃ g off n0 c0 v1 v2, cs = [.slice (some ⟨g, off, none⟩) n0 c0, v1, v2] ∧ j < n0 ∧ n0 ≤ maxLen ∧ g ∈ S ∧ (∃ q, w.cell? ⟨g, off + j * 2, none⟩ = some q) ∧ (∃ q, w.cell? ⟨g, off + j * 2 + 1, none⟩ = some q) ∧ (∀ i, w.frozen? ⟨g, i, none⟩ = false) ∧
      ∀ (T : List Nat) (a : Option Addr) (n k : Nat) (y : List Int × Bool) (p : Bool), cellK.own w T [.slice a n k, .bool p] y → (∀ b ∈ T, b ∉ S) → ∃ S', (∀ b ∈ S', b ∈ S ∨ b ∈ T) ∧ arrK.own ((w.setCell ⟨g, off + j * 2, none⟩ (.slice a n k)).setCell ⟨g, off + j * 2 + 1, none⟩ (.bool p)) S' cs (x.1.set j y, x.2) := by
  obtain ⟨a0, n0, c0, a1, n1, c1, a2, n2, c2, S0, S1, S2, rfl, rfl, hnd, h0, h1, h2⟩ := arr_own h
  obtain ⟨l0, _, m0, _⟩ := Kn.row_len (cellsK.read h0)
  have l0' : x.1.length = n0 := l0
  obtain ⟨g, off, ds, T0, rfl, hg, hT, hcell, hfr, hel, _, _, hput⟩ := Kn.own_at h0 hj
  obtain ⟨ea, en, ec, rfl, _⟩ := cell_own hel
  obtain ⟨u0, u1, u2⟩ := nodup3 hnd
  refine ⟨g, off, n0, c0, _, _, rfl, by omega, m0, List.mem_append_left _ hg, ⟨_, hcell 0 (by decide)⟩, ⟨_, hcell 1 (by decide)⟩, hfr, fun T a n k y p hy hd => ?_⟩
  obtain ⟨S', hS', own'⟩ := hput T _ y hy (fun b hb hb' => hd b hb (List.mem_append_left _ hb'))
  refine ⟨S' ++ (S1 ++ S2), fun b hb => ?_, arr_of own' ?_ ?_ (nodup_of (cellsK.nodup own') (intsK.nodup h1) (intsK.nodup h2) (fun b hb hb' => ?_) (fun b hb hb' => ?_) (fun b hb hb' => (u2 b hb).2 hb'))⟩
  · rcases List.mem_append.1 hb with h | h
    · rcases hS' b h with h | h
      · exact .inl (List.mem_append_left _ h)
      · exact .inr h
    · exact .inl (List.mem_append_right _ h)
  · exact intsK.ownSet (intsK.ownSet h1 (fun b hb e => (u1 b hb).1 (e ▸ hg)) _) (fun b hb e => (u1 b hb).1 (e ▸ hg)) _
  · exact intsK.ownSet (intsK.ownSet h2 (fun b hb e => (u2 b hb).1 (e ▸ hg)) _) (fun b hb e => (u2 b hb).1 (e ▸ hg)) _
  · rcases hS' b hb' with h | h
    · exact (u1 b hb).1 h
    · exact hd b h (List.mem_append_right _ (List.mem_append_left _ hb))
  · rcases hS' b hb' with h | h
    · exact (u2 b hb).1 h
    · exact hd b h (List.mem_append_right _ (List.mem_append_right _ hb))

def StoreOk (ga gb gr gd : Int) (x : Arr) (bx br bc : Int) (c : List Int × Bool) : Prop := ArrOk ga gb gr gd x ∧ AdOk ga gb gr gd bx br bc ∧ SymOk c.1 11

instance (ga gb gr gd : Int) (x : Arr) (bx br bc : Int) (c : List Int × Bool) : Decidable (StoreOk ga gb gr gd x bx br bc c) := inferInstanceAs (Decidable (_ ∧ _))

end Go.Proofs.YtfpfgaifhmgpiaaDoor

namespace Go.Proofs.YtfpfgaifhmgpiaaDoor
open Go.RowKit Go.PlainAid

set_option linter.unusedVariables false

def IArrayOk : Prop := ∀ (ga gb gr gd : Int) (cs : List Value) (x : Arr) (v : Bool) (hv : decide (ArrOk ga gb gr gd x) = v) (w : World) (h : arrK.rd w cs x) (hf : ArrFit x), Calls Tryd.prog 14 #[.agg #[.int .i64 ga, .int .i64 gb, .int .i64 gr, .int .i64 gd], .agg cs.toArray] w (Gives (.bool v) w)

def ITimePasses : Prop := ∀ (ga gb gr gd n : Int) (cs : List Value) (x : Arr) (w : World) (h : arrK.rd w cs x) (hf : ArrFit x), Calls Tryd.prog 19 #[.agg #[.int .i64 ga, .int .i64 gb, .int .i64 gr, .int .i64 gd], .agg cs.toArray, .int .i64 n] w (GivesS arrK (timesF ga gb gr gd n x) w)

def IRowDecayed : Prop := ∀ (ga gb gr gd la lh bk rw : Int) (cs : List Value) (x : Arr) (v : Bool) (hv : decide (decF ga gb gr gd la lh x bk rw) = v) (w : World) (h : arrK.rd w cs x) (hf : ArrFit x), Calls Tryd.prog 15 #[.agg #[.int .i64 ga, .int .i64 gb, .int .i64 gr, .int .i64 gd], .agg #[.int .i64 la, .int .i64 lh], .agg cs.toArray, .int .i64 bk, .int .i64 rw] w (Gives (.bool v) w)

def ISenseRow (Gv : World → Prop) : Prop := ∀ (ga gb gr gd la lh bk rw : Int) (cs : List Value) (x : Arr) (w : World) (h : arrK.rd w cs x) (hf : ArrFit x) (hG : Gv w), Calls Tryd.prog 13 #[.agg #[.int .i64 ga, .int .i64 gb, .int .i64 gr, .int .i64 gd], .agg #[.int .i64 la, .int .i64 lh], .agg cs.toArray, .int .i64 bk, .int .i64 rw] w (GivesS arrK (sensedF ga gb gr gd la lh x bk rw) w)

def ISenseBank (Gv : World → Prop) : Prop := ∀ (ga gb gr gd la lh bk : Int) (cs : List Value) (x : Arr) (w : World) (h : arrK.rd w cs x) (hf : ArrFit x) (hG : Gv w), Calls Tryd.prog 20 #[.agg #[.int .i64 ga, .int .i64 gb, .int .i64 gr, .int .i64 gd], .agg #[.int .i64 la, .int .i64 lh], .agg cs.toArray, .int .i64 bk] w (GivesS arrK (sensedB ga gb gr gd la lh x bk) w)

def ILoadCell : Prop := ∀ (ga gb gr gd bx br bc : Int) (cs : List Value) (x : Arr) (w : World) (h : arrK.rd w cs x) (hf : ArrFit x), Calls Tryd.prog 17 #[.agg #[.int .i64 ga, .int .i64 gb, .int .i64 gr, .int .i64 gd], .agg cs.toArray, .agg #[.int .i64 bx, .int .i64 br, .int .i64 bc]] w (GivesC (loadF ga gb gr gd x bx br bc).1 (loadF ga gb gr gd x bx br bc).2 w)

end Go.Proofs.YtfpfgaifhmgpiaaDoor

namespace Go.Proofs.YtfpfgaifhmgpiaaDoor
open Go.RowKit Go.PlainAid

set_option linter.unusedVariables false

theorem below_allocK (w : World) (o : Obj) : Below w.heap.size w (w.alloc o) := (Below.refl _ _).alloc (Nat.le_refl _) o

theorem intsTy : intsK.Ty [3] := Kn.Ty.row (Kn.Ty.flat _ _ _) (fun t h => by cases h) (by simp)

theorem boolTy : boolK.Ty [] := Kn.Ty.flat _ _ _

theorem cellTy : cellK.Ty [3] := Kn.Ty.pair intsTy boolTy (fun t h => h) (fun t h => by cases h)

theorem cellsTy : cellsK.Ty [41, 3] := Kn.Ty.row cellTy (fun t h => List.mem_cons_of_mem _ h) (by simp)

theorem arrTy : arrK.Ty [41, 3] := Kn.Ty.pair cellsTy (Kn.Ty.pair intsTy intsTy (fun t h => h) (fun t h => h)) (fun t h => h) (fun t h => List.mem_cons_of_mem _ h)

theorem getD_get {α : Type} {l : List α} {k : Nat} {d : α} (h : k < l.length) : l.getD k d = l[k] := by
  rw [List.getD_eq_getElem?_getD, List.getElem?_eq_getElem h]
  rfl

theorem hitF_length (z : List Int) (k : Nat) : (hitF z k).length = z.length := by unfold hitF; simp

theorem hitsF_length (gr : Int) (z : List Int) (i : Nat) (rw : Int) : (hitsF gr z i rw).length = z.length := by
  unfold hitsF
  simp only
  split <;> split <;> simp [hitF_length]

end Go.Proofs.YtfpfgaifhmgpiaaDoor

namespace Go.Proofs.YtfpfgaifhmgpiaaDoor
open Go.RowKit Go.PlainAid

set_option linter.unusedVariables false

theorem ownI_other {B n c g : Nat} {l : List Int} {w : World} {p : Addr} (h : OwnI B (.slice (some ⟨g, 0, none⟩) n c) l w) (hp : g ≠ p.block) (u : Value) : OwnI B (.slice (some ⟨g, 0, none⟩) n c) l (w.setCell p u) := by
  refine ⟨h.1, ?_⟩
  rcases h.2 with hv | ⟨b, cap, cur, hv, hB, hh, r⟩
  · exact .inl hv
  · cases hv
    exact .inr ⟨g, c, cur, rfl, hB, (Below.heap_setCell _ _ _ _ hp).trans hh, r⟩

theorem rowI_other {g o : Nat} {l : List Int} {w : World} {p : Addr} (h : RowI w (some ⟨g, o, none⟩) l) (hp : g ≠ p.block) (u : Value) : RowI (w.setCell p u) (some ⟨g, o, none⟩) l := by
  rcases h with h | ⟨g', o', he, hc⟩
  · exact .inl h
  · cases he
    refine .inr ⟨g, o, rfl, fun i hi => ?_⟩
    have := hc i hi
    simp only [World.cell?, Below.heap_setCell _ _ _ _ hp] at this ⊢
    exact this

theorem getD_ints {l : List Nat} {k : Nat} : (ints l).getD k 0 = ((l.getD k 0 : Nat) : Int) := ints_getD l k

theorem int_at {r : List Nat} {k : Nat} (hk : k < (ints r).length) : (ints r)[k] = ((r.getD k 0 : Nat) : Int) := by
  rw [← getD_ints, List.getD_eq_getElem?_getD, List.getElem?_eq_getElem hk]
  rfl

theorem mulP_lt {b : List Nat} {r : Nat} (hb : Lt16 b) (hr : r < 16) : ∀ i, Lt16 (mulP b r i)
  | 0 => fun v hv => by rw [(List.mem_replicate.mp hv).2]; omega
  | i + 1 => lt_set (lt_set (mulP_lt hb hr i) (xor_lt (getDn_lt (mulP_lt hb hr i) _) (getDn_lt hb _))) (xor_lt (getDn_lt (mulP_lt hb hr i) _) (gm_lt (getDn_lt hb _) hr))

theorem polyB_next {t : Nat} (h : 1 ≤ t) : polyB (t + 1) = mulP (polyB t) (gp 2 t) (polyB t).length := by
  match t, h with
  | t + 1, _ => rfl

theorem poly_lt1 : Lt16 (polyB 1) := by unfold Lt16; decide

theorem poly_lt2 : Lt16 (polyB 2) := by rw [polyB_two]; unfold Lt16; decide

set_option maxHeartbeats 4000000 in
set_option maxRecDepth 100000 in
theorem specEncodeSymbols_is {a : Option Addr} {c n : Nat} {l : List Int} (hn : l.length = n) {w : World} (h : RowI w a l) (v : List Int) (hv : encI l = v) (hl : (n : Int) ≤ 9223372036854775807) :
    Calls Tryd.prog 100 #[.slice a n c] w (GivesI v w) := by
  have HN := Lib.hid hn
  have HA := Lib.hid h
  have HV := Lib.hid hv
  clear hn h hv
  by_cases hok : SymOk l 8
  case neg =>
    have KA := Lib.hid (decide_eq_false hok)
    obtain rfl : v = [] := by rw [← HV.out]; exact if_neg hok
    clear hok
    go_enter Tryd.func100, Tryd.ntmps100
    go_wp2_with fail
    refine (specSymbolsOk_is HN.out HA.out false KA.out hl).mono ?_
    rintro e w2 ⟨rfl, rfl⟩
    go_wp2_with fail
    go_ret
    exact givesI_empty rfl (Nat.le_refl _) (by show (w.heap.push _)[w.heap.size]? = _; simp) ((Below.refl _ _).alloc (Nat.le_refl _) _)
  have KA := Lib.hid (decide_eq_true hok)
  obtain rfl : n = 8 := by have := hok.2; have := HN.out; omega
  obtain ⟨g, o, rfl, _⟩ := HA.out.at (k := 0) (by rw [HN.out]; omega)
  obtain ⟨u, hu⟩ : ∃ u, nats l = u := ⟨_, rfl⟩
  have HLT : Hid (Lt16 u) := by show Lt16 u; rw [← hu]; exact nats_lt hok.1
  have HUL : Hid (u.length = 8) := by show _ = _; rw [← hu, nats_length]; exact HN.out
  have HLU : Hid (l = ints u) := by show _ = _; rw [← hu, ints_nats hok.1]
  have HF : Hid (ints (enc u) = v) := by show _ = _; rw [← HV.out, encI, if_pos hok, hu]
  obtain ⟨i0, hi, hz0, hz1, hz2⟩ := info_parts infoI
  clear hok hu HV
  go_enter Tryd.func100, Tryd.ntmps100
  go_wp2_with fail
  refine (specSymbolsOk_is HN.out HA.out true KA.out hl).mono ?_
  rintro e w2 ⟨rfl, rfl⟩
  go_wp2_with (at_make; refine wpList_make_full _ rfl _ _ 29 rfl w.heap.size 3 i0 (.int .i64 0) 1 Tryd.underlying29 hi hz0 hz1 _ _ _ _ 3 rfl rfl rfl rfl (by rw [hz2]; omega) (by unfold maxLen; omega) (Nat.le_refl _) ?_)
  intro w1 hown hgr
  have hb1 : Below w.heap.size w w1 := (Below.refl _ _).grown hgr (Nat.le_refl _) (fun k hk => by cases hk)
  have own1 : OwnI w.heap.size (.slice (some ⟨w.heap.size, 0, none⟩) 3 3) [0, 0, 0] w1 := by
    unfold OwnI
    rw [made_one] at hown
    exact hown
  have HR1 := Lib.hid (HA.out.below hb1)
  have hs1 := hb1.size
  clear hown hgr
  go_wp2_with (at_builtin; refine append_int rfl _ _ rfl w.heap.size _ 3 [0, 0, 0] rfl own1 rfl (some ⟨g, o, none⟩) 8 c l rfl HN.out (fun h => by cases h) HR1.out (by omega) hs1 ?_)
  intro v' w4 hown4 hgrow _
  have HB4 : Hid (Below w.heap.size w w4) := hb1.grown hgrow hs1 (fun j hj => by have := Option.some.inj hj; have h2 : w.heap.size = j := this; omega)
  obtain ⟨aa, cc, hv⟩ := hown4.shape
  subst hv
  have hlen : ((0 : Int) :: 0 :: 0 :: l).length = 11 := by have := HN.out; simp only [List.length_cons]; omega
  rw [hlen] at hown4
  obtain ⟨P, rfl, _, _, hBP, hPS⟩ := hown4.at (k := 0) (by rw [hlen]; omega)
  have HO4 : Hid (OwnI w.heap.size (.slice (some ⟨P, 0, none⟩) 11 cc) (0 :: 0 :: 0 :: ints u) w4) := by show OwnI _ _ _ _; rw [← HLU.out]; exact hown4
  have HPS := Lib.hid hPS
  have HBP := Lib.hid hBP
  rw [hlen]
  clear hown4 hgrow own1 hb1 hBP hPS HR1 hs1
  go_wp2_with fail
  have HBY : Hid (RowI (w4.alloc (.cells #[.int .i64 1, .int .i64 1] 3)) (some ⟨w4.heap.size, 0, none⟩) (ints (polyB 1))) := by
    refine .inr ⟨_, _, rfl, fun i hi => ?_⟩
    have hh : (w4.alloc (.cells #[.int .i64 1, .int .i64 1] 3)).heap[w4.heap.size]? = some (.cells #[.int .i64 1, .int .i64 1] 3 (0, 0)) := by show (w4.heap.push _)[w4.heap.size]? = _; simp
    have hi2 : i < 2 := hi
    simp only [World.cell?, hh]
    match i, hi2 with
    | 0, _ => rfl
    | 1, _ => rfl
  go_loopw [4, 5] (fun b j wr => ∃ t Q m cq : Nat, 1 ≤ t ∧ t ≤ 3 ∧ j = .int .i64 t ∧ b = .slice (some ⟨Q, 0, none⟩) m cq ∧ m = t + 1 ∧ RowI wr (some ⟨Q, 0, none⟩) (ints (polyB t)) ∧ P < Q ∧ Q < wr.heap.size ∧ OwnI w.heap.size (.slice (some ⟨P, 0, none⟩) 11 cc) (0 :: 0 :: 0 :: ints u) wr ∧ Below w.heap.size w wr) (fun _ j _ => 3 - (intOf j).toNat)
  case atStart => exact ⟨1, w4.heap.size, 2, 2, Nat.le_refl _, by omega, rfl, rfl, rfl, HBY.out, HPS.out, by simp, World.ownsRow.alloc HO4.out _, HB4.out.alloc HB4.out.size _⟩
  case round =>
    obtain ⟨t, Q, m, cq, ht1, ht3, rfl, rfl, hm, hby, hPQ, hQs, hW, hbr⟩ := hrel
    have HBY := Lib.hid hby
    have HPQ := Lib.hid hPQ
    have HQS := Lib.hid hQs
    have HW := Lib.hid hW
    have HBR := Lib.hid hbr
    clear hby hPQ hQs hW hbr
    by_cases hlt : t < 3
    case neg =>
      obtain rfl : t = 3 := by omega
      obtain rfl : m = 4 := by omega
      rw [polyB_three] at HBY
      have hb3 : Below wr.heap.size wr (wr.alloc (.cells #[] 3)) := (Below.refl _ _).alloc (Nat.le_refl _) _
      have own3 : OwnI wr.heap.size (.slice (some ⟨wr.heap.size, 0, none⟩) 0 0) [] (wr.alloc (.cells #[] 3)) := World.ownsRow_made (base := wr.heap.size) (e := 3) (size := 1) wr #[] 0 (Nat.le_refl _) (by decide) rfl
      have HRW := Lib.hid (HW.out.row.below hb3)
      have hS3 : wr.heap.size ≤ (wr.alloc (.cells #[] 3)).heap.size := by simp
      have hlen3 : ((0 : Int) :: 0 :: 0 :: ints u).length = 11 := by have := HUL.out; simp only [List.length_cons, ints_length]; omega
      go_wp2_with (at_builtin; refine append_int rfl _ _ rfl wr.heap.size _ 0 [] rfl own3 rfl (some ⟨P, 0, none⟩) 11 cc (0 :: 0 :: 0 :: ints u) rfl hlen3 (fun h => by cases h) HRW.out (by omega) hS3 ?_)
      intro v' w5 hown5 hgrow5 _
      (try rw [List.nil_append] at hown5)
      have hb5 : Below wr.heap.size wr w5 := hb3.grown hgrow5 hS3 (fun j hj => by have := Option.some.inj hj; have h2 : wr.heap.size = j := this; omega)
      obtain ⟨ar, cr, hv⟩ := hown5.shape
      subst hv
      rw [hlen3] at hown5
      obtain ⟨R, rfl, _, _, hBR, hRS⟩ := hown5.at (k := 0) (by rw [hlen3]; omega)
      have HR5 : Hid (OwnI wr.heap.size (.slice (some ⟨R, 0, none⟩) 11 cr) (ints (0 :: 0 :: 0 :: u)) w5) := hown5
      have HW5 : Hid (OwnI w.heap.size (.slice (some ⟨P, 0, none⟩) 11 cc) (0 :: 0 :: 0 :: ints u) w5) := HW.out.below hb5
      have HY5 := Lib.hid (HBY.out.below hb5)
      have HB5 : Hid (Below w.heap.size w w5) := HBR.out.trans (hb5.mono HBR.out.size)
      have HQR : Hid (Q < R) := Nat.lt_of_lt_of_le HQS.out hBR
      have HPR : Hid (P < R) := Nat.lt_trans HPQ.out HQR.out
      have HWR : Hid (w.heap.size ≤ R) := Nat.le_of_lt (Nat.lt_of_le_of_lt HBP.out HPR.out)
      have HQ3 := HQS.out
      rw [hlen3]
      clear hown5 hgrow5 own3 hb3 hb5 HRW hS3 hBR hRS HBY HQS HW HBR
      obtain ⟨B0, hB0⟩ : ∃ B0, wr.heap.size = B0 := ⟨_, rfl⟩
      rw [hB0] at HR5
      clear hB0
      go_wp2_with fail
      go_loopw [9] (fun x wx => ∃ i : Nat, ∃ r : List Nat, 2 ≤ i ∧ i ≤ 10 ∧ x = .int .i64 i ∧ DivAt u i r ∧ OwnI B0 (.slice (some ⟨R, 0, none⟩) 11 cr) (ints r) wx ∧ OwnI w.heap.size (.slice (some ⟨P, 0, none⟩) 11 cc) (0 :: 0 :: 0 :: ints u) wx ∧ RowI wx (some ⟨Q, 0, none⟩) (ints [8, 14, 7, 1]) ∧ Below w.heap.size w wx) (fun x _ => (intOf x).toNat)
      case atStart => exact ⟨10, _, by omega, by omega, rfl, div_start HLT.out HUL.out, HR5.out, HW5.out, HY5.out, HB5.out⟩
      case round =>
        obtain ⟨i, r, hi2, hi10, rfl, hdiv, hR, hW, hY, hbr⟩ := hrel
        have HD := Lib.hid hdiv
        have HR6 := Lib.hid hR
        have HW6 := Lib.hid hW
        have HY6 := Lib.hid hY
        have HB6 := Lib.hid hbr
        have HRL : Hid ((ints r).length = 11) := by show _ = _; rw [ints_length]; exact hdiv.1
        have HRT : Hid (Lt16 r) := hdiv.2.1
        clear hdiv hR hW hY hbr HR5 HW5 HY5 HB5
        by_cases hi3 : 3 ≤ i
        case neg =>
          obtain rfl : i = 2 := by omega
          have HEN := Lib.hid (div_end HLT.out HD.out)
          go_wp2_with fail
          go_loopw [13] (fun x wx => ∃ k : Nat, k ≤ 3 ∧ x = .int .i64 k ∧ OwnI B0 (.slice (some ⟨R, 0, none⟩) 11 cr) (ints r) wx ∧ OwnI w.heap.size (.slice (some ⟨P, 0, none⟩) 11 cc) (((if 0 < k then r.getD 0 0 else 0 : Nat) : Int) :: ((if 1 < k then r.getD 1 0 else 0 : Nat) : Int) :: ((if 2 < k then r.getD 2 0 else 0 : Nat) : Int) :: ints u) wx ∧ Below w.heap.size w wx) (fun x _ => 3 - (intOf x).toNat)
          case atStart => exact ⟨0, by omega, rfl, HR6.out, HW6.out, HB6.out⟩
          case round =>
            obtain ⟨k, hk3, rfl, hR, hW, hbr⟩ := hrel
            have HR7 := Lib.hid hR
            have HW7 := Lib.hid hW
            have HB7 := Lib.hid hbr
            clear hR hW hbr HR6 HW6 HY6 HB6
            have hwl : (((if 0 < k then r.getD 0 0 else 0 : Nat) : Int) :: ((if 1 < k then r.getD 1 0 else 0 : Nat) : Int) :: ((if 2 < k then r.getD 2 0 else 0 : Nat) : Int) :: ints u).length = 11 := by have := HUL.out; simp only [List.length_cons, ints_length]; omega
            by_cases hk : k < 3
            case neg =>
              obtain rfl : k = 3 := by omega
              have HFN : Hid (OwnI w.heap.size (.slice (some ⟨P, 0, none⟩) 11 cc) v wr) := by
                show OwnI _ _ _ _
                rw [← HF.out, ← HEN.out]
                exact HW7.out
              have HVL : Hid (v.length = 11) := by show _ = _; rw [← HF.out, ints_length, enc_length, HUL.out]
              go_wp2_with fail
              go_ret
              exact ⟨some ⟨P, 0, none⟩, cc, by rw [HVL.out]; rfl, by rw [HVL.out]; exact HFN.out, HB7.out⟩
            obtain ⟨g1, hg1, hc1, _, _, _⟩ := HR7.out.at (k := k) (by rw [HRL.out]; omega)
            obtain rfl : R = g1 := by simpa using hg1
            obtain ⟨g2, hg2, hc2, hf2, _, _⟩ := HW7.out.at (k := k) (by rw [hwl]; omega)
            obtain rfl : P = g2 := by simpa using hg2
            have hcR : wr.cell? ⟨R, k, none⟩ = some (.int .i64 ((r.getD k 0 : Nat) : Int)) := by
              rw [hc1, ← getD_ints, List.getD_eq_getElem?_getD, List.getElem?_eq_getElem (by rw [HRL.out]; omega)]
              rfl
            have HST : Hid ((((if 0 < k then r.getD 0 0 else 0 : Nat) : Int) :: ((if 1 < k then r.getD 1 0 else 0 : Nat) : Int) :: ((if 2 < k then r.getD 2 0 else 0 : Nat) : Int) :: ints u).set k ((r.getD k 0 : Nat) : Int) = ((if 0 < k + 1 then r.getD 0 0 else 0 : Nat) : Int) :: ((if 1 < k + 1 then r.getD 1 0 else 0 : Nat) : Int) :: ((if 2 < k + 1 then r.getD 2 0 else 0 : Nat) : Int) :: ints u) := by
              show _ = _
              match k, hk with
              | 0, _ => simp
              | 1, _ => simp
              | 2, _ => simp
            obtain ⟨X, hX⟩ : ∃ X : Int, ((r.getD k 0 : Nat) : Int) = X := ⟨_, rfl⟩
            rw [hX] at hcR HST
            obtain ⟨old, hco⟩ : ∃ u, wr.cell? ⟨P, k, none⟩ = some u := ⟨_, hc2⟩
            have HWL := Lib.hid hwl
            clear hX hc1 hc2 hg1 hg2 hwl
            go_wp2_with fail
            have R9 : Hid (OwnI B0 (.slice (some ⟨R, 0, none⟩) 11 cr) (ints r) (wr.setCell ⟨P, k, none⟩ (.int .i64 X))) := ownI_other HR7.out (Nat.ne_of_gt HPR.out) _
            have W9 : Hid (OwnI w.heap.size (.slice (some ⟨P, 0, none⟩) 11 cc) (((if 0 < k + 1 then r.getD 0 0 else 0 : Nat) : Int) :: ((if 1 < k + 1 then r.getD 1 0 else 0 : Nat) : Int) :: ((if 2 < k + 1 then r.getD 2 0 else 0 : Nat) : Int) :: ints u) (wr.setCell ⟨P, k, none⟩ (.int .i64 X))) := by
              show OwnI _ _ _ _
              rw [← HST.out]
              exact HW7.out.stored HWL.out k _
            have HB9 : Hid (Below w.heap.size w (wr.setCell ⟨P, k, none⟩ (.int .i64 X))) := HB7.out.setCell HBP.out _
            go_roundw
            case rel => exact ⟨k + 1, by omega, by go_num, R9.out, W9.out, HB9.out⟩
            case measure => simp [intOf]; omega
        have hfl : r.getD i 0 < 16 := getDn_lt HRT.out i
        obtain ⟨f, hf0⟩ : ∃ f, r.getD i 0 = f := ⟨_, rfl⟩
        have HDS := Lib.hid (div_step HD.out hi3 hi10)
        rw [hf0] at hfl HDS
        have HFL := Lib.hid hfl
        obtain ⟨g1, hg1, hc1, _, _, _⟩ := HR6.out.at (k := i) (by rw [HRL.out]; omega)
        obtain rfl : R = g1 := by simpa using hg1
        have hcf : wr.cell? ⟨R, i, none⟩ = some (.int .i64 (f : Int)) := by
          rw [hc1, int_at, hf0]
        clear hf0 hc1 hg1 hfl
        go_wp2_with fail
        go_loopw [11] (fun x wx => ∃ k : Nat, k ≤ 4 ∧ x = .int .i64 k ∧ OwnI B0 (.slice (some ⟨R, 0, none⟩) 11 cr) (ints (redP r f (i - 3) k)) wx ∧ OwnI w.heap.size (.slice (some ⟨P, 0, none⟩) 11 cc) (0 :: 0 :: 0 :: ints u) wx ∧ RowI wx (some ⟨Q, 0, none⟩) (ints [8, 14, 7, 1]) ∧ Below w.heap.size w wx) (fun x _ => 4 - (intOf x).toNat)
        case atStart => exact ⟨0, by omega, rfl, HR6.out, HW6.out, HY6.out, HB6.out⟩
        case round =>
          obtain ⟨k, hk4, rfl, hR, hW, hY, hbr⟩ := hrel
          have HR7 := Lib.hid hR
          have HW7 := Lib.hid hW
          have HY7 := Lib.hid hY
          have HB7 := Lib.hid hbr
          clear hR hW hY hbr HR6 HW6 HY6 HB6
          by_cases hk : k < 4
          case neg =>
            obtain rfl : k = 4 := by omega
            go_wp2_with fail
            go_roundw
            case rel => exact ⟨i - 1, _, by omega, by omega, by go_num, HDS.out, HR7.out, HW7.out, HY7.out, HB7.out⟩
            case measure => simp [intOf]; omega
          obtain ⟨p, hp⟩ : ∃ p, i - 3 = p := ⟨_, rfl⟩
          obtain ⟨q, hq⟩ : ∃ q, p + k = q := ⟨_, rfl⟩
          have hq11 : q < 11 := by omega
          have u1 : IntKind.i64.wrap ((i : Int) - 3) = (p : Int) := (IntWalk.i64_in _ (by omega)).trans (by omega)
          have u2 : IntKind.i64.wrap ((p : Int) + (k : Int)) = (q : Int) := (IntWalk.i64_in _ (by omega)).trans (by omega)
          rw [hp] at HR7
          have hRQ : Lt16 (redP r f p k) := redP_lt HRT.out HFL.out k
          have HL7 : Hid ((ints (redP r f p k)).length = 11) := by show _ = _; rw [ints_length, redP_length]; have := HRL.out; rwa [ints_length] at this
          obtain ⟨g1, hg1, hc1, _, _, _⟩ := HR7.out.at (k := q) (by rw [HL7.out]; exact hq11)
          obtain rfl : R = g1 := by simpa using hg1
          obtain ⟨g2, o2, he2, hc2⟩ := HY7.out.at (k := k) (by rw [ints_length]; exact hk)
          cases he2
          obtain ⟨X, hX⟩ : ∃ X, (redP r f p k).getD q 0 = X := ⟨_, rfl⟩
          obtain ⟨Y, hY⟩ : ∃ Y, [8, 14, 7, 1].getD k 0 = Y := ⟨_, rfl⟩
          have hXl : X < 16 := by rw [← hX]; exact getDn_lt hRQ q
          have hYl : Y < 16 := by rw [← hY]; exact poly_lt k
          have hcX : wr.cell? ⟨R, q, none⟩ = some (.int .i64 (X : Int)) := by rw [hc1, int_at, hX]
          have hcY : wr.cell? ⟨Q, k, none⟩ = some (.int .i64 (Y : Int)) := by
            have := hc2
            rw [getD_ints, hY, Nat.zero_add] at this
            exact this
          have HM : Hid (gfMul (Y : Int) (f : Int) = ((gm Y f : Nat) : Int)) := gfMul_nat hYl HFL.out
          have hG : gm Y f < 16 := gm_lt hYl HFL.out
          obtain ⟨G, hGe⟩ : ∃ G, gm Y f = G := ⟨_, rfl⟩
          rw [hGe] at HM hG
          have hxor : bits .xor .i64 (X : Int) (G : Int) = ((X ^^^ G : Nat) : Int) := i64_xor_nat X G (by omega) (by omega)
          have HST : Hid ((ints (redP r f p k)).set q ((X ^^^ G : Nat) : Int) = ints (redP r f p (k + 1))) := by
            show _ = _
            rw [← ints_set, ← hX, ← hGe, ← hY, ← hq]
            rfl
          have HP := Lib.hid hp
          have z0 := fun q : Later wr => q.cell hcX
          have z1 := fun q : Later wr => q.cell hcY
          clear hc1 hc2 hX hY hXl hYl hGe hG hg1 hRQ
          go_wp2_with fail
          refine wp_region_later_tail 14 (by kernel_rfl) (by kernel_rfl) ?_
          simp only [List.take_succ_cons, List.take_zero, List.drop_succ_cons, List.drop_zero]
          repeat (go_big_quiet_step (first | (go_at_call 89; exact Gives.later_same _ (specGfMul_is _ _ _ HM.out _))))
          refine wpQuiet_nil ?_
          rintro w8 ⟨zz, hz⟩
          have hb8 : Below wr.heap.size wr w8 := hz ▸ zz.ok
          have HR8 := Lib.hid (HR7.out.below hb8)
          have HW8 : Hid (OwnI w.heap.size (.slice (some ⟨P, 0, none⟩) 11 cc) (0 :: 0 :: 0 :: ints u) w8) := HW7.out.below hb8
          have HY8 := Lib.hid (HY7.out.below hb8)
          have HB8 : Hid (Below w.heap.size w w8) := HB7.out.trans (hb8.mono HB7.out.size)
          obtain ⟨g2, hg2, hc2, hf2, _, _⟩ := HR8.out.at (k := q) (by rw [HL7.out]; exact hq11)
          obtain rfl : R = g2 := by simpa using hg2
          obtain ⟨old, hco⟩ : ∃ u, w8.cell? ⟨R, q, none⟩ = some u := ⟨_, hc2⟩
          clear z0 z1 hz zz hb8 hcX hcY hc2 hg2
          go_wp2_with fail
          have R9 : Hid (OwnI B0 (.slice (some ⟨R, 0, none⟩) 11 cr) (ints (redP r f (i - 3) (k + 1))) (w8.setCell ⟨R, q, none⟩ (.int .i64 ((X ^^^ G : Nat) : Int)))) := by
            show OwnI _ _ _ _
            rw [HP.out, ← HST.out]
            exact HR8.out.stored HL7.out q _
          have W9 : Hid (OwnI w.heap.size (.slice (some ⟨P, 0, none⟩) 11 cc) (0 :: 0 :: 0 :: ints u) (w8.setCell ⟨R, q, none⟩ (.int .i64 ((X ^^^ G : Nat) : Int)))) := ownI_other HW8.out (Nat.ne_of_lt HPR.out) _
          have Y9 : Hid (RowI (w8.setCell ⟨R, q, none⟩ (.int .i64 ((X ^^^ G : Nat) : Int))) (some ⟨Q, 0, none⟩) (ints [8, 14, 7, 1])) := rowI_other HY8.out (Nat.ne_of_lt HQR.out) _
          have HB9 : Hid (Below w.heap.size w (w8.setCell ⟨R, q, none⟩ (.int .i64 ((X ^^^ G : Nat) : Int)))) := HB8.out.setCell HWR.out _
          go_roundw
          case rel => exact ⟨k + 1, by omega, by go_num, R9.out, W9.out, Y9.out, HB9.out⟩
          case measure => simp [intOf]; omega
    have hbl : (polyB t).length = m ∧ Lt16 (polyB t) := by
      obtain rfl | rfl : t = 1 ∨ t = 2 := by omega
      · exact ⟨by rw [hm]; rfl, poly_lt1⟩
      · exact ⟨by rw [hm, polyB_two]; rfl, poly_lt2⟩
    have HBL : Hid ((polyB t).length = m) := hbl.1
    have HBT : Hid (Lt16 (polyB t)) := hbl.2
    have HNX := Lib.hid (polyB_next ht1)
    have HP : Hid (gfPow 2 (t : Int) = ((gp 2 t : Nat) : Int)) := gfPow_nat (a := 2) (by omega) (by omega)
    obtain ⟨y, hy⟩ : ∃ y, gp 2 t = y := ⟨_, rfl⟩
    have hyl : y < 16 := by rw [← hy]; exact gp_lt (by omega) t
    rw [hy] at HP HNX
    obtain ⟨b, hb⟩ : ∃ b, polyB t = b := ⟨_, rfl⟩
    rw [hb] at HBY HBL HBT HNX
    rw [HBL.out] at HNX
    have HYL := Lib.hid hyl
    obtain ⟨N, hN⟩ : ∃ N, m + 1 = N := ⟨_, rfl⟩
    have hm3 : m ≤ 3 := by omega
    have u0 : IntKind.i64.wrap ((m : Int) + 1) = (N : Int) := (IntWalk.i64_in _ (by omega)).trans (by omega)
    have HM := Lib.hid hm
    clear hbl hy hb hyl hm
    obtain ⟨S, hS⟩ : ∃ S, wr.heap.size = S := ⟨_, rfl⟩
    go_wp2_with (at_make; refine wpList_make_full _ rfl _ _ 29 rfl wr.heap.size 3 i0 (.int .i64 0) 1 Tryd.underlying29 hi hz0 hz1 _ _ _ _ N rfl rfl rfl rfl (by rw [hz2]; omega) (by unfold maxLen; omega) (Nat.le_refl _) ?_)
    intro w1 hown hgr
    have hb1 : Below wr.heap.size wr w1 := (Below.refl _ _).grown hgr (Nat.le_refl _) (fun k hk => by cases hk)
    have own1 : OwnI S (.slice (some ⟨S, 0, none⟩) N N) (ints (mulP b y 0)) w1 := by
      unfold OwnI
      rw [made_one] at hown
      have e : ints (mulP b y 0) = List.replicate N (0 : Int) := by
        show ints (List.replicate (b.length + 1) 0) = _
        rw [HBL.out, hN]
        simp [ints]
      rw [e, List.length_replicate, show (List.replicate N (0 : Int)).map (Value.int .i64) = List.replicate N (Value.int .i64 0) by simp]
      exact hown
    have HY1 := Lib.hid (HBY.out.below hb1)
    have HW1 : Hid (OwnI w.heap.size (.slice (some ⟨P, 0, none⟩) 11 cc) (0 :: 0 :: 0 :: ints u) w1) := HW.out.below hb1
    have HB1 : Hid (Below w.heap.size w w1) := HBR.out.trans (hb1.mono HBR.out.size)
    have HQ1 : Q < S := by have := HQS.out; omega
    have HSZ : Hid (S < w1.heap.size) := by
      obtain ⟨_, he, _, _, _, h5⟩ := own1.at (k := 0) (by rw [ints_length, mulP_length]; omega)
      show S < _
      cases he
      exact h5
    have HO1 := Lib.hid own1
    have HQ2 := Lib.hid HQ1
    have HPS2 : Hid (P < S) := Nat.lt_trans HPQ.out HQ1
    have HWS : Hid (w.heap.size ≤ S) := Nat.le_of_lt (Nat.lt_of_le_of_lt HBP.out HPS2.out)
    clear hown hgr own1 hb1 hS HQ1 HBY HW HBR HQS
    go_wp2_with fail
    go_loopw [7] (fun x wx => ∃ i : Nat, i ≤ m ∧ x = .int .i64 i ∧ OwnI S (.slice (some ⟨S, 0, none⟩) N N) (ints (mulP b y i)) wx ∧ OwnI w.heap.size (.slice (some ⟨P, 0, none⟩) 11 cc) (0 :: 0 :: 0 :: ints u) wx ∧ RowI wx (some ⟨Q, 0, none⟩) (ints b) ∧ Below w.heap.size w wx ∧ S < wx.heap.size) (fun x _ => m - (intOf x).toNat)
    case atStart => exact ⟨0, by omega, rfl, HO1.out, HW1.out, HY1.out, HB1.out, HSZ.out⟩
    case round =>
      obtain ⟨i, hi3, rfl, hO, hW, hY, hbr, hsz⟩ := hrel
      have HO2 := Lib.hid hO
      have HW2 := Lib.hid hW
      have HY2 := Lib.hid hY
      have HB2 := Lib.hid hbr
      have HZ2 := Lib.hid hsz
      clear hO hW hY hbr hsz HO1 HW1 HY1 HB1 HSZ
      by_cases hk : i < m
      case neg =>
        obtain rfl : i = m := by omega
        go_wp2_with fail
        go_roundw
        case rel => exact ⟨t + 1, S, N, N, by omega, by omega, by go_num, rfl, by have := HM.out; omega, by rw [HNX.out]; exact HO2.out.row, HPS2.out, HZ2.out, HW2.out, HB2.out⟩
        case measure => simp [intOf]; omega
      obtain ⟨q, hq⟩ : ∃ q, i + 1 = q := ⟨_, rfl⟩
      have u1 : IntKind.i64.wrap ((i : Int) + 1) = (q : Int) := (IntWalk.i64_in _ (by omega)).trans (by omega)
      obtain ⟨L, hL⟩ : ∃ L, mulP b y i = L := ⟨_, rfl⟩
      rw [hL] at HO2
      have hLlt : Lt16 L := by rw [← hL]; exact mulP_lt HBT.out HYL.out i
      have hLl : L.length = N := by rw [← hL, mulP_length, HBL.out, hN]
      have HLL : Hid ((ints L).length = N) := by show _ = _; rw [ints_length]; exact hLl
      have hqN : q < N := by omega
      have hiN : i < N := by omega
      obtain ⟨g1, hg1, hc1, _, _, _⟩ := HO2.out.at (k := q) (by rw [HLL.out]; exact hqN)
      obtain rfl : S = g1 := by simpa using hg1
      obtain ⟨g2, o2, he2, hc2⟩ := HY2.out.at (k := i) (by rw [ints_length, HBL.out]; exact hk)
      cases he2
      obtain ⟨X, hX⟩ : ∃ X, L.getD q 0 = X := ⟨_, rfl⟩
      obtain ⟨X2, hX2⟩ : ∃ X, L.getD i 0 = X := ⟨_, rfl⟩
      obtain ⟨Y, hY⟩ : ∃ Y, b.getD i 0 = Y := ⟨_, rfl⟩
      have hXl : X < 16 := by rw [← hX]; exact getDn_lt hLlt q
      have hX2l : X2 < 16 := by rw [← hX2]; exact getDn_lt hLlt i
      have hYl : Y < 16 := by rw [← hY]; exact getDn_lt HBT.out i
      have hcX : wr.cell? ⟨S, q, none⟩ = some (.int .i64 (X : Int)) := by rw [hc1, int_at, hX]
      have hcY : wr.cell? ⟨Q, i, none⟩ = some (.int .i64 (Y : Int)) := by
        have := hc2
        rw [getD_ints, hY, Nat.zero_add] at this
        exact this
      have HMU : Hid (gfMul (Y : Int) (y : Int) = ((gm Y y : Nat) : Int)) := gfMul_nat hYl HYL.out
      have hG : gm Y y < 16 := gm_lt hYl HYL.out
      have HMN : Hid (mulP b y (i + 1) = (L.set q (X ^^^ Y)).set i (X2 ^^^ gm Y y)) := by
        show ((mulP b y i).set (i + 1) ((mulP b y i).getD (i + 1) 0 ^^^ b.getD i 0)).set i ((mulP b y i).getD i 0 ^^^ gm (b.getD i 0) y) = _
        rw [hL, hq, hX, hX2, hY]
      obtain ⟨G, hGe⟩ : ∃ G, gm Y y = G := ⟨_, rfl⟩
      rw [hGe] at HMU hG HMN
      have hxor : bits .xor .i64 (X : Int) (Y : Int) = ((X ^^^ Y : Nat) : Int) := i64_xor_nat X Y (by omega) (by omega)
      have hxor2 : bits .xor .i64 (X2 : Int) (G : Int) = ((X2 ^^^ G : Nat) : Int) := i64_xor_nat X2 G (by omega) (by omega)
      have HL1 : Hid ((ints (L.set q (X ^^^ Y))).length = N) := by show _ = _; rw [ints_length, List.length_set]; exact hLl
      have HG1 : Hid ((L.set q (X ^^^ Y)).getD i 0 = X2) := by show _ = _; rw [getDs_ne (by omega), hX2]
      have z0 := fun q : Later wr => q.cell hcX
      have z1 := fun q : Later wr => q.cell hcY
      have HYE : Hid (b.getD i 0 = Y) := hY
      clear hc1 hc2 hX hX2 hY hXl hX2l hYl hGe hG hg1 hL hLlt hLl
      go_wp2_with fail
      refine wp_region_later_tail 14 (by kernel_rfl) (by kernel_rfl) ?_
      simp only [List.take_succ_cons, List.take_zero, List.drop_succ_cons, List.drop_zero]
      repeat (go_big_quiet_step (fail))
      refine wpQuiet_nil ?_
      rintro w8 ⟨zz, hz⟩
      have hb8 : Below wr.heap.size wr w8 := hz ▸ zz.ok
      have HO8 := Lib.hid (HO2.out.below hb8)
      have HW8 : Hid (OwnI w.heap.size (.slice (some ⟨P, 0, none⟩) 11 cc) (0 :: 0 :: 0 :: ints u) w8) := HW2.out.below hb8
      have HY8 := Lib.hid (HY2.out.below hb8)
      have HB8 : Hid (Below w.heap.size w w8) := HB2.out.trans (hb8.mono HB2.out.size)
      have HZ8 : Hid (S < w8.heap.size) := Nat.lt_of_lt_of_le HZ2.out hb8.size
      obtain ⟨g2, hg2, hc2, hf2, _, _⟩ := HO8.out.at (k := q) (by rw [HLL.out]; exact hqN)
      obtain rfl : S = g2 := by simpa using hg2
      obtain ⟨old, hco⟩ : ∃ u, w8.cell? ⟨S, q, none⟩ = some u := ⟨_, hc2⟩
      clear z0 z1 hz zz hb8 hcX hcY hc2 hg2
      go_wp2_with fail
      obtain ⟨w9, hw9⟩ : ∃ x, w8.setCell ⟨S, q, none⟩ (.int .i64 ((X ^^^ Y : Nat) : Int)) = x := ⟨_, rfl⟩
      have HO9 : Hid (OwnI S (.slice (some ⟨S, 0, none⟩) N N) (ints (L.set q (X ^^^ Y))) w9) := by
        show OwnI _ _ _ _
        rw [← hw9, ints_set]
        exact HO8.out.stored HLL.out q _
      have HW9 : Hid (OwnI w.heap.size (.slice (some ⟨P, 0, none⟩) 11 cc) (0 :: 0 :: 0 :: ints u) w9) := by show OwnI _ _ _ _; rw [← hw9]; exact ownI_other HW8.out (Nat.ne_of_lt HPS2.out) _
      have HY9 : Hid (RowI w9 (some ⟨Q, 0, none⟩) (ints b)) := by show RowI _ _ _; rw [← hw9]; exact rowI_other HY8.out (Nat.ne_of_lt HQ2.out) _
      have HB9 : Hid (Below w.heap.size w w9) := by show Below _ _ _; rw [← hw9]; exact HB8.out.setCell HWS.out _
      have HZ9 : Hid (S < w9.heap.size) := by show S < _; rw [← hw9]; simpa using HZ8.out
      rw [hw9]
      clear hw9 HO8 HW8 HY8 HB8 HZ8 HO2 HW2 HY2 HB2 HZ2 hf2 hco
      obtain ⟨g1, hg1, hc1, _, _, _⟩ := HO9.out.at (k := i) (by rw [HL1.out]; exact hiN)
      obtain rfl : S = g1 := by simpa using hg1
      obtain ⟨g2, o2, he2, hc2⟩ := HY9.out.at (k := i) (by rw [ints_length, HBL.out]; exact hk)
      cases he2
      have hcX : w9.cell? ⟨S, i, none⟩ = some (.int .i64 (X2 : Int)) := by rw [hc1, int_at, HG1.out]
      have hcY : w9.cell? ⟨Q, i, none⟩ = some (.int .i64 (Y : Int)) := by
        have := hc2
        rw [getD_ints, HYE.out, Nat.zero_add] at this
        exact this
      have z0 := fun q : Later w9 => q.cell hcX
      have z1 := fun q : Later w9 => q.cell hcY
      clear hc1 hc2 hg1
      refine wp_region_later_tail 15 (by kernel_rfl) (by kernel_rfl) ?_
      simp only [List.take_succ_cons, List.take_zero, List.drop_succ_cons, List.drop_zero]
      repeat (go_big_quiet_step (first | (go_at_call 88; exact Gives.later_same _ (specGfPow_is _ _ _ HP.out _)) | (go_at_call 89; exact Gives.later_same _ (specGfMul_is _ _ _ HMU.out _))))
      refine wpQuiet_nil ?_
      rintro w10 ⟨zz, hz⟩
      have hb10 : Below w9.heap.size w9 w10 := hz ▸ zz.ok
      have HO10 := Lib.hid (HO9.out.below hb10)
      have HW10 : Hid (OwnI w.heap.size (.slice (some ⟨P, 0, none⟩) 11 cc) (0 :: 0 :: 0 :: ints u) w10) := HW9.out.below hb10
      have HY10 := Lib.hid (HY9.out.below hb10)
      have HB10 : Hid (Below w.heap.size w w10) := HB9.out.trans (hb10.mono HB9.out.size)
      have HZ10 : Hid (S < w10.heap.size) := Nat.lt_of_lt_of_le HZ9.out hb10.size
      obtain ⟨g2, hg2, hc2, hf2, _, _⟩ := HO10.out.at (k := i) (by rw [HL1.out]; exact hiN)
      obtain rfl : S = g2 := by simpa using hg2
      obtain ⟨old, hco⟩ : ∃ u, w10.cell? ⟨S, i, none⟩ = some u := ⟨_, hc2⟩
      clear z0 z1 hz zz hb10 hcX hcY hc2 hg2
      go_wp2_with fail
      have O11 : Hid (OwnI S (.slice (some ⟨S, 0, none⟩) N N) (ints (mulP b y (i + 1))) (w10.setCell ⟨S, i, none⟩ (.int .i64 ((X2 ^^^ G : Nat) : Int)))) := by
        show OwnI _ _ _ _
        rw [HMN.out, ints_set]
        exact HO10.out.stored HL1.out i _
      have W11 : Hid (OwnI w.heap.size (.slice (some ⟨P, 0, none⟩) 11 cc) (0 :: 0 :: 0 :: ints u) (w10.setCell ⟨S, i, none⟩ (.int .i64 ((X2 ^^^ G : Nat) : Int)))) := ownI_other HW10.out (Nat.ne_of_lt HPS2.out) _
      have Y11 : Hid (RowI (w10.setCell ⟨S, i, none⟩ (.int .i64 ((X2 ^^^ G : Nat) : Int))) (some ⟨Q, 0, none⟩) (ints b)) := rowI_other HY10.out (Nat.ne_of_lt HQ2.out) _
      have HB11 : Hid (Below w.heap.size w (w10.setCell ⟨S, i, none⟩ (.int .i64 ((X2 ^^^ G : Nat) : Int)))) := HB10.out.setCell HWS.out _
      have HZ11 : Hid (S < (w10.setCell ⟨S, i, none⟩ (.int .i64 ((X2 ^^^ G : Nat) : Int))).heap.size) := by show S < _; simpa using HZ10.out
      go_roundw
      case rel => exact ⟨i + 1, by omega, by rw [← hq] at u1; go_num, O11.out, W11.out, Y11.out, HB11.out, HZ11.out⟩
      case measure => simp [intOf]; omega

end Go.Proofs.YtfpfgaifhmgpiaaDoor

namespace Go.Proofs.YtfpfgaifhmgpiaaDoor
open Go.RowKit Go.PlainAid

set_option linter.unusedVariables false

/-- A drawn small geometry. -/
def DrewG (c B : Nat) (w : World) (e : Ending) (w' : World) : Prop :=
  ∃ b r d : Int, e = .returned (.agg #[.int .i64 1, .int .i64 b, .int .i64 r, .int .i64 d]) ∧ (1 ≤ b ∧ b ≤ 2) ∧ (2 ≤ r ∧ r ≤ 4) ∧ (1 ≤ d ∧ d ≤ 2) ∧ Cur c B w' ∧ Only c w w'

set_option maxHeartbeats 4000000 in
set_option maxRecDepth 100000 in
theorem l14Small_any {c B : Nat} {w : World} (hc : Cur c B w) : Calls Tryd.prog 70 #[.pointer (some ⟨c, 0, none⟩)] w (DrewG c B w) := by
  have hcl := hc.lt
  have hBc : B ≤ c := by obtain ⟨_, _, _, _, _, _, _, h, _⟩ := hc; exact h
  obtain ⟨w1, hw1⟩ : ∃ u, w.alloc (.cells #[.int .i64 0, .int .i64 0, .int .i64 0, .int .i64 0] 25) = u := ⟨_, rfl⟩
  have z1 : w1.heap[w.heap.size]? = some (.cells #[.int .i64 0, .int .i64 0, .int .i64 0, .int .i64 0] 25) := by subst hw1; exact heap_alloc_new _ _
  have HC1 : Hid (Cur c B w1) := by subst hw1; exact hc.alloc _
  have HO1 : Hid (Only c w w1) := by subst hw1; exact (Only.refl c w).alloc _
  clear hc
  go_enter Tryd.func70, Tryd.ntmps70
  go_wp2_with fail
  clear hw1
  refine (l01Below_any HC1.out 2 (by omega)).mono ?_
  rintro e w2 ⟨x, rfl, hx0, hx1, hc2, ho2⟩
  rw [topOf_pos (by omega)] at hx1
  have z2 := (ho2.block _ (lt_of_block z1) (by omega)).trans z1
  have HC2 := Lib.hid hc2
  have HO2 := Lib.hid (HO1.out.trans ho2)
  have ex : IntKind.i64.wrap (1 + x) = 1 + x := IntWalk.i64_in _ (by omega)
  clear hc2 ho2 z1 HC1 HO1
  go_wp2_with fail
  refine (l01Below_any HC2.out 3 (by omega)).mono ?_
  rintro e w3 ⟨y, rfl, hy0, hy1, hc3, ho3⟩
  rw [topOf_pos (by omega)] at hy1
  have z3 := (ho3.block _ (lt_of_block z2) (by omega)).trans z2
  have HC3 := Lib.hid hc3
  have HO3 := Lib.hid (HO2.out.trans ho3)
  have ey : IntKind.i64.wrap (2 + y) = 2 + y := IntWalk.i64_in _ (by omega)
  clear hc3 ho3 z2 HC2 HO2
  go_wp2_with fail
  refine (l01Below_any HC3.out 2 (by omega)).mono ?_
  rintro e w4 ⟨v, rfl, hv0, hv1, hc4, ho4⟩
  rw [topOf_pos (by omega)] at hv1
  have z4 := (ho4.block _ (lt_of_block z3) (by omega)).trans z3
  have HC4 := Lib.hid hc4
  have HO4 := Lib.hid (HO3.out.trans ho4)
  have ev : IntKind.i64.wrap (1 + v) = 1 + v := IntWalk.i64_in _ (by omega)
  obtain ⟨b, hb⟩ : ∃ b, 1 + x = b := ⟨_, rfl⟩
  obtain ⟨r, hr⟩ : ∃ r, 2 + y = r := ⟨_, rfl⟩
  obtain ⟨d, hd⟩ : ∃ d, 1 + v = d := ⟨_, rfl⟩
  rw [hb] at ex
  rw [hr] at ey
  have ew : wrap64 (1 + v) = d := by rw [← IntWalk.i64_left, ev]; exact hd
  have ev2 : IntKind.i64.wrap (1 + v) = d := by rw [ev]; exact hd
  clear ev
  have HBR : Hid ((1 ≤ b ∧ b ≤ 2) ∧ (2 ≤ r ∧ r ≤ 4) ∧ (1 ≤ d ∧ d ≤ 2)) := ⟨by omega, by omega, by omega⟩
  clear hc4 ho4 z3 HC3 HO3 hx0 hx1 hy0 hy1 hv0 hv1
  obtain ⟨y0, y1, y2, y3⟩ := cells4 z4
  have f0 := thawed z4 0
  have f1 := thawed z4 1
  have f2 := thawed z4 2
  have f3 := thawed z4 3
  simp only [hb, hr]
  clear hb hr hd
  have z6 := set_cells (set_cells (set_cells (set_cells z4 0 (.int .i64 1)) 1 (.int .i64 b)) 2 (.int .i64 r)) 3 (.int .i64 d)
  have HC6 : Hid (Cur c B ((((w4.setCell ⟨w.heap.size, 0, none⟩ (.int .i64 1)).setCell ⟨w.heap.size, 1, none⟩ (.int .i64 b)).setCell ⟨w.heap.size, 2, none⟩ (.int .i64 r)).setCell ⟨w.heap.size, 3, none⟩ (.int .i64 d))) := by
    have h0 := HC4.out
    show Cur c B _
    repeat' (first | exact h0 | refine Cur.setNew ?_ (by simp; omega) (by simp; omega) _)
  have HO6 : Hid (Only c w ((((w4.setCell ⟨w.heap.size, 0, none⟩ (.int .i64 1)).setCell ⟨w.heap.size, 1, none⟩ (.int .i64 b)).setCell ⟨w.heap.size, 2, none⟩ (.int .i64 r)).setCell ⟨w.heap.size, 3, none⟩ (.int .i64 d))) := by
    have h0 := HO4.out
    show Only c w _
    repeat' (first | exact h0 | refine Only.setNew ?_ (by simp) _)
  have hz6 := Lib.hid z6
  clear z6
  go_wp2_with fail
  clear y0 y1 y2 y3 f0 f1 f2 f3
  generalize (((w4.setCell ⟨w.heap.size, 0, none⟩ (.int .i64 1)).setCell ⟨w.heap.size, 1, none⟩ (.int .i64 b)).setCell ⟨w.heap.size, 2, none⟩ (.int .i64 r)).setCell ⟨w.heap.size, 3, none⟩ (.int .i64 d) = w6 at HC6 HO6 hz6 ⊢
  have p6 : w6.heap[w.heap.size]? = some (.cells #[.int .i64 1, .int .i64 b, .int .i64 r, .int .i64 d] 25) := hz6.out
  obtain ⟨y0, y1, y2, y3⟩ := cells4 p6
  (try simp only [Exit.inBlock, Exit.then])
  refine bodyPost_ret (v := .agg #[.int .i64 1, .int .i64 b, .int .i64 r, .int .i64 d]) ?_ rfl ⟨b, r, d, rfl, HBR.out.1, HBR.out.2.1, HBR.out.2.2, HC6.out, HO6.out⟩
  simp [results, Tryd.results70, go_sem, y0, y1, y2, y3]

def pkA0 : List Int := [0, 10, 50, 100]

def pkA1 : List Int := [0, 2, 5, 20]

/-- Drawn limits. -/
def DrewL (c B : Nat) (w : World) (e : Ending) (w' : World) : Prop :=
  ∃ a h : Int, e = .returned (.agg #[.int .i64 a, .int .i64 h]) ∧ (0 ≤ a ∧ a ≤ 100) ∧ (0 ≤ h ∧ h ≤ 20) ∧ Cur c B w' ∧ Only c w w'

set_option maxHeartbeats 4000000 in
set_option maxRecDepth 100000 in
theorem l14Limits_any {c B : Nat} {w : World} (hc : Cur c B w) : Calls Tryd.prog 71 #[.pointer (some ⟨c, 0, none⟩)] w (DrewL c B w) := by
  have hcl := hc.lt
  have hBc : B ≤ c := by obtain ⟨_, _, _, _, _, _, _, h, _⟩ := hc; exact h
  obtain ⟨w1, hw1⟩ : ∃ u, w.alloc (.cells #[.int .i64 0, .int .i64 0] 27) = u := ⟨_, rfl⟩
  have z1 : w1.heap[w.heap.size]? = some (.cells #[.int .i64 0, .int .i64 0] 27) := by subst hw1; exact heap_alloc_new _ _
  have HC1 : Hid (Cur c B w1) := by subst hw1; exact hc.alloc _
  have HO1 : Hid (Only c w w1) := by subst hw1; exact (Only.refl c w).alloc _
  have hs1 : c < w1.heap.size := HC1.out.lt
  clear hc
  go_enter Tryd.func71, Tryd.ntmps71
  go_wp2_with fail
  clear hw1
  refine (l01PickInt_any (fun x => 0 ≤ x ∧ x ≤ 100) (HC1.out.alloc _) w1.heap.size 4 pkA0 (ints_new _ _ _ _ rfl) (by omega) (by decide) (by decide) (by decide)).mono ?_
  rintro e w2 ⟨x, rfl, hx, hc2, ho2⟩
  have z1' : (w1.alloc (.cells #[.int .i64 0, .int .i64 10, .int .i64 50, .int .i64 100] 3)).heap[w.heap.size]? = some (.cells #[.int .i64 0, .int .i64 0] 27) := keep_block ((Below.refl _ _).alloc (Nat.le_refl _) _) z1 (lt_of_block z1)
  have z2 := (ho2.block _ (lt_of_block z1') (by omega)).trans z1'
  have HC2 := Lib.hid hc2
  have HO2 := Lib.hid ((HO1.out.alloc _).trans ho2)
  have hs2 : c < w2.heap.size := HC2.out.lt
  have HX := Lib.hid hx
  clear hc2 ho2 z1 z1' HC1 HO1 hx hs1
  go_wp2_with fail
  refine (l01PickInt_any (fun x => 0 ≤ x ∧ x ≤ 20) (HC2.out.alloc _) w2.heap.size 4 pkA1 (ints_new _ _ _ _ rfl) (by omega) (by decide) (by decide) (by decide)).mono ?_
  rintro e w3 ⟨y, rfl, hy, hc3, ho3⟩
  have z2' : (w2.alloc (.cells #[.int .i64 0, .int .i64 2, .int .i64 5, .int .i64 20] 3)).heap[w.heap.size]? = some (.cells #[.int .i64 0, .int .i64 0] 27) := keep_block ((Below.refl _ _).alloc (Nat.le_refl _) _) z2 (lt_of_block z2)
  have z3 := (ho3.block _ (lt_of_block z2') (by omega)).trans z2'
  have HC3 := Lib.hid hc3
  have HO3 := Lib.hid ((HO2.out.alloc _).trans ho3)
  have HY := Lib.hid hy
  clear hc3 ho3 z2 z2' HC2 HO2 hy hs2
  obtain ⟨y0, y1⟩ := cells2 z3
  have f0 := thawed z3 0
  have f1 := thawed z3 1
  have hz6 := Lib.hid (set_cells (set_cells z3 0 (.int .i64 x)) 1 (.int .i64 y))
  have HC6 : Hid (Cur c B ((w3.setCell ⟨w.heap.size, 0, none⟩ (.int .i64 x)).setCell ⟨w.heap.size, 1, none⟩ (.int .i64 y))) := by
    have h0 := HC3.out
    show Cur c B _
    repeat' (first | exact h0 | refine Cur.setNew ?_ (by simp; omega) (by simp; omega) _)
  have HO6 : Hid (Only c w ((w3.setCell ⟨w.heap.size, 0, none⟩ (.int .i64 x)).setCell ⟨w.heap.size, 1, none⟩ (.int .i64 y))) := by
    have h0 := HO3.out
    show Only c w _
    repeat' (first | exact h0 | refine Only.setNew ?_ (by simp) _)
  go_wp2_with fail
  clear y0 y1 f0 f1
  generalize (w3.setCell ⟨w.heap.size, 0, none⟩ (.int .i64 x)).setCell ⟨w.heap.size, 1, none⟩ (.int .i64 y) = w6 at HC6 HO6 hz6 ⊢
  have p6 : w6.heap[w.heap.size]? = some (.cells #[.int .i64 x, .int .i64 y] 27) := hz6.out
  obtain ⟨y0, y1⟩ := cells2 p6
  (try simp only [Exit.inBlock, Exit.then])
  refine bodyPost_ret (v := .agg #[.int .i64 x, .int .i64 y]) ?_ rfl ⟨x, y, rfl, HX.out, HY.out, HC6.out, HO6.out⟩
  simp [results, Tryd.results71, go_sem, y0, y1]

/-- A drawn word: eleven elements of the field in a row of the call's own. -/
def DrewW (c B : Nat) (w : World) (e : Ending) (w' : World) : Prop :=
  ∃ a cap l, e = .returned (.slice a 11 cap) ∧ 11 ≤ cap ∧ SymOk l 11 ∧ OwnI w.heap.size (.slice a 11 cap) l w' ∧ Cur c B w' ∧ Only c w w'

theorem symOk_setD {l : List Int} {m : Int} (h : SymOk l m) (k : Nat) {x : Nat} (hx : x < 16) : SymOk (l.set k (x : Int)) m := by
  refine ⟨fun v hv => ?_, by rw [List.length_set]; exact h.2⟩
  rcases List.mem_or_eq_of_mem_set hv with h1 | h1
  · exact h.1 v h1
  · subst h1
    unfold El
    omega

set_option maxHeartbeats 8000000 in
set_option maxRecDepth 100000 in
theorem l12Bent_any {c B : Nat} {w : World} (hc : Cur c B w) : Calls Tryd.prog 74 #[.pointer (some ⟨c, 0, none⟩)] w (DrewW c B w) := by
  have hcl := hc.lt
  have hBc : B ≤ c := by obtain ⟨_, _, _, _, _, _, _, h, _⟩ := hc; exact h
  go_enter Tryd.func74, Tryd.ntmps74
  go_wp2_with fail
  refine (l12Data_any hc).mono ?_
  rintro e w1 ⟨g1, cap1, l, rfl, hl, he, own1, hc1, ho1⟩
  have HC1 := Lib.hid hc1
  have HO1 := Lib.hid ho1
  have HR1 := Lib.hid own1.row
  have HL := Lib.hid hl
  have HE := Lib.hid he
  clear own1 hc1 ho1 hl he
  go_wp2_with fail
  refine (specEncodeSymbols_is HL.out HR1.out (encI l) rfl (by decide)).mono ?_
  rintro e w2 ⟨a2, cap2, rfl, own2, hb2⟩
  have hok : SymOk l 8 := ⟨HE.out, by rw [HL.out]; rfl⟩
  obtain ⟨l2, hl2⟩ : ∃ z, encI l = z := ⟨_, rfl⟩
  have hl2n : l2.length = 11 := by
    rw [← hl2]
    unfold encI
    rw [if_pos hok, ints_length, enc_length, nats_length, HL.out]
  have hl2e : SymOk l2 11 := by
    rw [← hl2]
    unfold encI
    rw [if_pos hok]
    exact ⟨els_ints (enc_lt (nats_lt HE.out)), by rw [ints_length, enc_length, nats_length, HL.out]; rfl⟩
  rw [hl2] at own2 ⊢
  rw [hl2n] at own2 ⊢
  obtain ⟨gw, rfl, _, _, hgw, hgl⟩ := own2.at (k := 0) (by rw [hl2n]; decide)
  have HCAP : Hid (11 ≤ cap2) := own2.cap_le hl2n
  have HC2 : Hid (Cur c B w2) := HC1.out.keep (hb2.block c HC1.out.lt) (hb2.mono (by have := HC1.out.lt; omega))
  have HO2 : Hid (Only c w w2) := HO1.out.later hb2
  have HW2 : Hid (OwnI w.heap.size (.slice (some ⟨gw, 0, none⟩) 11 cap2) l2 w2) := own2.mono HO1.out.size
  have hgc : gw ≠ c := by have := HO1.out.size; omega
  have HGW : Hid (w.heap.size ≤ gw) := Nat.le_trans HO1.out.size hgw
  have HE2 := Lib.hid hl2e
  clear own2 hb2 HC1 HO1 HR1 hl2 hl2e hok
  go_wp2_with fail
  go_loopw [4] (fun i wr => ∃ (k : Nat) (l : List Int), k ≤ 4 ∧ i = .int .i64 (k : Int) ∧ SymOk l 11 ∧ OwnI w.heap.size (.slice (some ⟨gw, 0, none⟩) 11 cap2) l wr ∧ Cur c B wr ∧ Only c w wr) (fun i _ => 5 - (intOf i).toNat)
  case atStart => exact ⟨0, l2, by decide, rfl, HE2.out, HW2.out, HC2.out, HO2.out⟩
  case round =>
    obtain ⟨k, l, hk, rfl, hsy, hown, hcu, hon⟩ := hrel
    have HSY := Lib.hid hsy
    have HW := Lib.hid hown
    have HC := Lib.hid hcu
    have HO := Lib.hid hon
    have HLN : Hid (l.length = 11) := by show _ = _; have := hsy.2; omega
    clear hsy hown hcu hon HC2 HO2 HW2 HE2 HL HE
    go_wp2_with fail
    refine (l01Below_any HC.out 4 (by omega)).mono ?_
    rintro e w3 ⟨x, rfl, hx0, hx1, hc3, ho3⟩
    rw [topOf_pos (by omega)] at hx1
    have HC3 := Lib.hid hc3
    have HO3 := Lib.hid (HO.out.trans ho3)
    have HW3 := Lib.hid (HW.out.only ho3 hcl)
    clear hc3 ho3 HC HO HW
    by_cases hlt : (k : Int) < x
    case neg =>
      have t0 : decide ((k : Int) < x) = false := decide_eq_false hlt
      clear hlt
      go_wp2_with fail
      go_ret
      exact ⟨_, cap2, l, rfl, HCAP.out, HSY.out, HW3.out, HC3.out, HO3.out⟩
    have t0 : decide ((k : Int) < x) = true := decide_eq_true hlt
    have hk3 : k ≤ 2 := by omega
    have wk : IntKind.i64.wrap ((k : Int) + 1) = (k : Int) + 1 := IntWalk.i64_in _ (by omega)
    go_wp2_with fail
    refine (l01Below_any HC3.out 11 (by omega)).mono ?_
    rintro e w4 ⟨y, rfl, hy0, hy1, hc4, ho4⟩
    rw [topOf_pos (by omega)] at hy1
    have HC4 := Lib.hid hc4
    have HO4 := Lib.hid (HO3.out.trans ho4)
    have HW4 := Lib.hid (HW3.out.only ho4 hcl)
    clear hc4 ho4 HC3 HO3 HW3
    obtain ⟨j, rfl⟩ : ∃ j : Nat, y = (j : Int) := ⟨y.toNat, by omega⟩
    have hj : j < 11 := by omega
    have hj' : (j : Int) < 11 := by omega
    obtain ⟨g', hg', ce, _, _, _⟩ := HW4.out.at (k := j) (by rw [HLN.out]; exact hj)
    obtain rfl : gw = g' := by simpa using hg'
    have hel := el_getD HSY.out.1 (show j < l.length by rw [HLN.out]; exact hj)
    unfold El at hel
    obtain ⟨v, hv, hv16⟩ : ∃ v : Nat, l.getD j 0 = (v : Int) ∧ v < 16 := ⟨(l.getD j 0).toNat, by omega, by omega⟩
    clear hel
    have ce' : w4.cell? ⟨gw, j, none⟩ = some (.int .i64 (v : Int)) := by
      rw [ce, ← hv, List.getD_eq_getElem?_getD, List.getElem?_eq_getElem (show j < l.length by rw [HLN.out]; exact hj)]
      rfl
    have HCE := Lib.hid ce'
    have HVV := Lib.hid hv
    clear ce hg' hy0 hy1 hx0 hx1 hlt hv ce'
    go_wp2_with fail
    refine wp_region_float (A := ?A) [.h, .h, .h, .h, .h, .h, .h, .t, .t, .t, .h, .e] (by kernel_rfl) (by kernel_rfl) (fun u => u.cell? ⟨gw, j, none⟩ = some (.int .i64 (v : Int))) ?hC ?hH ?hT
    case hC => exact HCE.out
    case hH =>
      intro u hu
      have s0 := fun q : Same u => q.cell hu
      simp only [headsOf]
      repeat (go_big_quiet_step (fail))
      refine wpQuiet_nil ?_
      exact rfl
    case hT =>
      simp only [chainT]
      have HCd : Hid (Cur c B w4.drew) := HC4.out
      have HOd : Hid (Only c w w4.drew) := HO4.out.drewN 1
      have HWd : Hid (OwnI w.heap.size (.slice (some ⟨gw, 0, none⟩) 11 cap2) l w4.drew) := HW4.out
      clear HC4 HO4 HW4 HCE
      go_wp2_with fail
      refine (l01Below_any HCd.out 15 (by omega)).mono ?_
      rintro e w5 ⟨z, rfl, hz0, hz1, hc5, ho5⟩
      rw [topOf_pos (by omega)] at hz1
      have HC5 := Lib.hid hc5
      have HO5 := Lib.hid (HOd.out.trans ho5)
      have HW5 := Lib.hid (HWd.out.only ho5 hcl)
      clear hc5 ho5 HCd HOd HWd
      obtain ⟨m, rfl⟩ : ∃ m : Nat, z = (m : Int) := ⟨z.toNat, by omega⟩
      have hm : 1 + m < 16 := by omega
      obtain ⟨g', hg', ce, cf, _, _⟩ := HW5.out.at (k := j) (by rw [HLN.out]; exact hj)
      obtain rfl : gw = g' := by simpa using hg'
      have ce' : w5.cell? ⟨gw, j, none⟩ = some (.int .i64 (l.getD j 0)) := by
        rw [ce, List.getD_eq_getElem?_getD, List.getElem?_eq_getElem (show j < l.length by rw [HLN.out]; exact hj)]
        rfl
      have hvv : l.getD j 0 = (v : Int) := HVV.out
      rw [hvv] at ce'
      have w1z : IntKind.i64.wrap (1 + (m : Int)) = 1 + (m : Int) := IntWalk.i64_in _ (by omega)
      have hxx : bits .xor .i64 (v : Int) (1 + (m : Int)) = ((v ^^^ (1 + m) : Nat) : Int) := by
        rw [show (1 : Int) + (m : Int) = ((1 + m : Nat) : Int) by omega]
        exact i64_xor_nat _ _ (by omega) (by omega)
      have hv2 : v ^^^ (1 + m) < 16 := xor_lt hv16 hm
      generalize v ^^^ (1 + m) = vx at hxx hv2
      have HNS : Hid (SymOk (l.set j (vx : Int)) 11) := symOk_setD HSY.out j hv2
      have R6 := Lib.hid (HW5.out.stored HLN.out j (vx : Int))
      have HC6 : Hid (Cur c B (w5.setCell ⟨gw, j, none⟩ (.int .i64 (vx : Int)))) := HC5.out.setNew (by show B ≤ gw; have := HGW.out; omega) (by show gw ≠ c; exact hgc) _
      have HO6 : Hid (Only c w (w5.setCell ⟨gw, j, none⟩ (.int .i64 (vx : Int)))) := HO5.out.setNew (by show w.heap.size ≤ gw; exact HGW.out) _
      clear ce hg' hvv hz0 hz1 HC5 HO5 HW5
      go_wp2_with fail
      refine stepQ_normal ⟨ce', ?_⟩
      go_wp2_with fail
      refine stepQ_normal ⟨ce', ?_⟩
      go_wp2_with fail
      refine stepQ_normal ⟨ce', ?_⟩
      go_wp2_with fail
      refine stepQ_normal ⟨trivial, ?_⟩
      clear ce' cf
      go_wp2
      go_roundw
      case rel => exact ⟨k + 1, _, by omega, by go_num, HNS.out, R6.out, HC6.out, HO6.out⟩
      case measure => simp [intOf]; omega

end Go.Proofs.YtfpfgaifhmgpiaaDoor
