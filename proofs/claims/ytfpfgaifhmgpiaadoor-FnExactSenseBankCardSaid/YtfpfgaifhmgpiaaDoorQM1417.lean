/-
  Texts of one proof, merged: RdyC, RdyJ, KnB, KnM, KnE, CelK, CelH, CelT, ArrK, ArrT, CodW, CodI, CodF, ArrM, KnA, ArrC, ArrC2, ArrD, ArrE, ArrF, ArrG, ArrH.
-/
import Derived.Test.YtfpfgaifhmgpiaaDoorQM141
import Derived.Test.YtfpfgaifhmgpiaaDoorQM146
import Derived.Test.YtfpfgaifhmgpiaaDoorQM148
import Derived.Test.YtfpfgaifhmgpiaaDoorQM149
import Derived.Test.YtfpfgaifhmgpiaaDoorQM1410
import Derived.Test.YtfpfgaifhmgpiaaDoorQM1414
import Derived.Test.YtfpfgaifhmgpiaaDoorQM1415
import Derived.Test.YtfpfgaifhmgpiaaDoorQM1416
import Derived.Deep.AppendLies
import Derived.Maps.AppendAt
namespace Go.Proofs.YtfpfgaifhmgpiaaDoor
open Go.RowKit Go.PlainAid

set_option linter.unusedVariables false

theorem below_allocI {w : World} (o : Obj) : Below w.heap.size w (w.alloc o) := (Below.refl _ _).alloc (Nat.le_refl _) _

theorem RowI.src {w : World} {ad : Addr} {l : List Int} (h : RowI w (some ad) l) : ∀ j u, (l.map (Value.int .i64))[j]? = some u → w.cell? (ad.add j) = some u := by
  rcases h with rfl | ⟨b, off, hb, h⟩
  · intro j u hu; simp at hu
  · cases hb
    intro j u hu
    rw [List.getElem?_map] at hu
    cases hl : l[j]? with
    | none => rw [hl] at hu; cases hu
    | some z =>
      rw [hl] at hu
      cases hu
      have hj : j < l.length := by
        rcases Nat.lt_or_ge j l.length with h1 | h1
        · exact h1
        · rw [List.getElem?_eq_none h1] at hl; cases hl
      have h2 := h j hj
      rw [List.getD_eq_getElem?_getD, hl] at h2
      unfold Addr.add
      by_cases h0 : j = 0
      · subst h0
        rw [if_pos rfl]
        exact h2
      · rw [if_neg h0]
        exact h2

/-- Holds till operation L. -/
def TillW (L : Nat) (F : World → Prop) (listed : Array Bool) (u : World) : Prop := listed.getD L false = false → F u

theorem TillW.gone {L : Nat} {F : World → Prop} {listed : Array Bool} {u : World} (h : L < listed.size) : TillW L F (listed.setIfInBounds L true) u := fun h2 => by rw [get_set_same false h] at h2; cases h2

/-- Holds behind operation L. -/
def FromW (L : Nat) (F : World → Prop) (listed : Array Bool) (u : World) : Prop := listed.getD L false = true → F u

theorem FromW.zero (L : Nat) (F : World → Prop) (n : Nat) (u : World) : FromW L F (Array.replicate n false) u := fun h => by rw [getD_replicate_false] at h; cases h

theorem FromW.no {L i : Nat} {F : World → Prop} {listed : Array Bool} {u : World} (h : listed.getD L false = false) (hi : i ≠ L) : FromW L F (listed.setIfInBounds i true) u := fun h2 => by rw [getD_set_ne false hi, h] at h2; cases h2

/-- Operation L comes last. -/
def AllW (L : Nat) (listed : Array Bool) : Prop := ∀ j, j < L → Aft L j listed

theorem AllW.keep {L i : Nat} {listed : Array Bool} (h : AllW L listed) (hi : i ≠ L) : AllW L (listed.setIfInBounds i true) := fun j hj => (h j hj).keep hi

/-- The rows that operations i and j answered lie apart, till operation m. -/
def AptR (i j m n1 n2 : Nat) (listed : Array Bool) (x : Nat → Value) : Prop := listed.getD j false = true → listed.getD m false = false → ∃ aa ca ab cb, x i = .slice aa n1 ca ∧ x j = .slice ab n2 cb ∧ Apt aa ab

theorem AptR.zero (i j m n1 n2 n : Nat) (x : Nat → Value) : AptR i j m n1 n2 (Array.replicate n false) x := fun h => by rw [getD_replicate_false] at h; cases h

theorem AptR.keep {i j m n1 n2 : Nat} {listed : Array Bool} {x : Nat → Value} (h : AptR i j m n1 n2 listed x) {k : Nat} (hi : k ≠ i) (hj : k ≠ j) (hm : k ≠ m) (v : Value) : AptR i j m n1 n2 (listed.setIfInBounds k true) (upd x k v) := fun h1 h2 => by
  rw [getD_set_ne false hj] at h1
  rw [getD_set_ne false hm] at h2
  rw [upd_other _ _ (Ne.symm hi), upd_other _ _ (Ne.symm hj)]
  exact h h1 h2

theorem AptR.no {i j m n1 n2 : Nat} {listed : Array Bool} {x : Nat → Value} (h : listed.getD j false = false) {k : Nat} (hj : k ≠ j) (v : Value) : AptR i j m n1 n2 (listed.setIfInBounds k true) (upd x k v) := fun h1 _ => by
  rw [getD_set_ne false hj, h] at h1; cases h1

theorem AptR.new {i j m n1 n2 : Nat} {listed : Array Bool} {x : Nat → Value} {ab : Option Addr} {cb : Nat} (hij : i ≠ j) (h : ∃ aa ca, x i = .slice aa n1 ca ∧ Apt aa ab) : AptR i j m n1 n2 (listed.setIfInBounds j true) (upd x j (.slice ab n2 cb)) := fun _ _ => by
  obtain ⟨aa, ca, e1, e2⟩ := h
  exact ⟨aa, ca, ab, cb, by rw [upd_other _ _ hij]; exact e1, upd_same _ _ _, e2⟩

theorem AptR.call {i j m n1 n2 : Nat} {listed : Array Bool} {x : Nat → Value} (h : m < listed.size) : AptR i j m n1 n2 (listed.setIfInBounds m true) x := fun _ h2 => by rw [get_set_same false h] at h2; cases h2

/-- Numbers appended to a row of the call's own; where the new row lies. -/
theorem append_int {ops : Array Oper} {rest : List Oper} {o : Oper} {a : Act} {w : World} {Q : Exit → Act → World → Prop} (hgd : o.guard = none) (s x : Operand) (ho : o.op = .call { callee := .builtin .append, args := #[s, x], argTypes := #[29, 29] })
    (base : Nat) (v : Value) (n : Nat) (xs : List Int) (hs : a.eval s = v) (hown : OwnI base v xs w) (hxn : xs.length = n) (ad : Option Addr) (m c : Nat) (news : List Int) (hx : a.eval x = .slice ad m c) (hl : news.length = m) (hnc : ad = none → c = 0) (hrow : RowI w ad news) (hbig : n + m ≤ 3500000) (hbase : base ≤ w.heap.size)
    (h : ∀ v' w', OwnI base v' (xs ++ news) w' → w.grownBy w' v.ownBlock → (v'.ownBlock = v.ownBlock ∨ v'.ownBlock = some w.heap.size) → wpList Tryd.prog ops Q rest (a.put o.dst v') w') : wpList Tryd.prog ops Q (o :: rest) a w := by
  obtain ⟨i0, hi, hz0, hz1, hz2⟩ := info_parts infoI
  have hown' : w.ownsRow base 3 1 v n (xs.map (Value.int .i64)) := by
    have h2 := hown
    unfold OwnI at h2
    rw [hxn] at h2
    exact h2
  cases ad with
  | none =>
    obtain rfl : c = 0 := hnc rfl
    have hn0 : news = [] := by
      rcases hrow with h2 | ⟨_, _, h2, _⟩
      · exact h2
      · cases h2
    subst hn0
    obtain rfl : m = 0 := hl.symm
    refine wpList_append_own_none hgd s x 29 ho base 3 i0 1 Tryd.underlying29 hi v n _ hs hown' hx (h v w ?_ ⟨rfl, rfl, rfl, Nat.le_refl _, fun _ _ _ => rfl⟩ (.inl rfl))
    rw [List.append_nil]
    exact hown
  | some ad =>
    have hfl : (news.map (Value.int .i64)).length = m * 1 := by rw [List.length_map, hl, Nat.mul_one]
    refine wpList_append_own_at _ hgd s x 29 ho base 3 i0 (.int .i64 0) 1 8 Tryd.underlying29 hi hz0 hz1 hz2 rfl (by decide) v n _ hs hown' ad m c (news.map (Value.int .i64)) hx hfl (RowI.src hrow) (fun u hu => by obtain ⟨z, _, rfl⟩ := List.mem_map.1 hu; rfl) (by unfold maxLen; omega) (by omega) hbase ?_
    intro v' w' ho2 hg _ hat
    refine h v' w' ?_ hg hat
    unfold OwnI
    rw [List.length_append, hxn, hl, List.map_append]
    exact ho2

end Go.Proofs.YtfpfgaifhmgpiaaDoor

namespace Go.Proofs.YtfpfgaifhmgpiaaDoor
open Go.RowKit Go.PlainAid

set_option linter.unusedVariables false

/-- A row of numbers in a block of the call's own. -/
def OwnJ (B : Nat) (v : Value) (l : List Int) (w : World) : Prop :=
  ∃ a n c, v = .slice a n c ∧ l.length = n ∧ ((a = none ∧ n = 0 ∧ c = 0) ∨ ∃ g off cur, a = some ⟨g, off, none⟩ ∧ B ≤ g ∧ w.heap[g]? = some (.cells cur 3 (0, 0)) ∧ ∀ i, i < n → cur[off + i]? = some (.int .i64 (l.getD i 0)))

theorem OwnI.toJ {B n c : Nat} {a : Option Addr} {l : List Int} {w : World} (hn : l.length = n) (h : OwnI B (.slice a n c) l w) : OwnJ B (.slice a n c) l w := by
  refine ⟨a, n, c, rfl, hn, ?_⟩
  rcases h.2 with ⟨hv, h0⟩ | ⟨g, cap, cur, hv, hB, hh, _, _, hs, ht⟩
  · cases hv
    exact .inl ⟨rfl, by omega, rfl⟩
  · cases hv
    refine .inr ⟨g, 0, cur, rfl, hB, hh, fun i hi => ?_⟩
    rw [Nat.zero_add]
    have h1 : (cur.toList.take (l.length * 1))[i]? = (l.map (Value.int .i64))[i]? := by rw [ht]
    rw [List.getElem?_take_of_lt (by omega), List.getElem?_map] at h1
    rw [← Array.getElem?_toList, h1, List.getD_eq_getElem?_getD]
    cases e : l[i]? with
    | none => rw [List.getElem?_eq_none_iff] at e; omega
    | some z => rfl

theorem OwnJ.at {B n c : Nat} {a : Option Addr} {l : List Int} {w : World} (h : OwnJ B (.slice a n c) l w) {k : Nat} (hk : k < l.length) :
    ∃ g off, a = some ⟨g, off, none⟩ ∧ w.cell? ⟨g, off + k, none⟩ = some (.int .i64 (l.getD k 0)) ∧ w.frozen? ⟨g, off + k, none⟩ = false ∧ B ≤ g ∧ g < w.heap.size := by
  obtain ⟨_, _, _, hv, hl, h | ⟨g, off, cur, rfl, hB, hh, hc⟩⟩ := h
  · cases hv; omega
  · cases hv
    exact ⟨g, off, rfl, by simp only [World.cell?, hh]; exact hc k (by omega), by simp [World.frozen?, hh], hB, lt_of_block hh⟩

theorem OwnJ.row {B n c : Nat} {a : Option Addr} {l : List Int} {w : World} (h : OwnJ B (.slice a n c) l w) : RowI w a l := by
  obtain ⟨_, _, _, hv, hl, ⟨h1, h2, h3⟩ | ⟨g, off, cur, rfl, hB, hh, hc⟩⟩ := h
  · cases hv
    exact .inl (List.length_eq_zero_iff.1 (by omega))
  · cases hv
    exact .inr ⟨g, off, rfl, fun i hi => by simp only [World.cell?, hh]; exact hc i (by omega)⟩

theorem OwnJ.mono {B C : Nat} {v : Value} {l : List Int} {w : World} (h : OwnJ B v l w) (hC : C ≤ B) : OwnJ C v l w := by
  obtain ⟨a, n, c, hv, hl, h | ⟨g, off, cur, ha, hB, hh, hc⟩⟩ := h
  · exact ⟨a, n, c, hv, hl, .inl h⟩
  · exact ⟨a, n, c, hv, hl, .inr ⟨g, off, cur, ha, Nat.le_trans hC hB, hh, hc⟩⟩

theorem OwnJ.same {B n c : Nat} {a : Option Addr} {l : List Int} {w w' : World} (h : OwnJ B (.slice a n c) l w) (hk : ∀ x, a = some x → w'.heap[x.block]? = w.heap[x.block]?) : OwnJ B (.slice a n c) l w' := by
  obtain ⟨_, _, _, hv, hl, h | ⟨g, off, cur, rfl, hB, hh, hc⟩⟩ := h
  · exact ⟨_, _, _, hv, hl, .inl h⟩
  · cases hv
    exact ⟨_, _, _, rfl, hl, .inr ⟨g, off, cur, rfl, hB, (hk _ rfl).trans hh, hc⟩⟩

theorem OwnJ.lo {B n c : Nat} {a : Option Addr} {l : List Int} {w : World} (h : OwnJ B (.slice a n c) l w) : ∀ x, a = some x → B ≤ x.block ∧ x.block < w.heap.size := by
  obtain ⟨_, _, _, hv, hl, ⟨h1, _, _⟩ | ⟨g, off, cur, rfl, hB, hh, hc⟩⟩ := h
  · cases hv
    rintro x rfl
    cases h1
  · cases hv
    rintro x hx
    cases hx
    exact ⟨hB, lt_of_block hh⟩

theorem OwnJ.nil {B n c : Nat} {a : Option Addr} {l : List Int} {w : World} (h : OwnJ B (.slice a n c) l w) : a = none → c = 0 := by
  obtain ⟨_, _, _, hv, hl, ⟨h1, h2, h3⟩ | ⟨g, off, cur, rfl, hB, hh, hc⟩⟩ := h
  · cases hv
    exact fun _ => h3
  · cases hv
    intro h
    cases h

theorem OwnJ.below {B n c : Nat} {a : Option Addr} {l : List Int} {w w' : World} (h : OwnJ B (.slice a n c) l w) (hb : Below w.heap.size w w') : OwnJ B (.slice a n c) l w' :=
  h.same (fun x hx => hb.block _ (h.lo x hx).2)

theorem OwnJ.keep {B c n : Nat} {a : Option Addr} {l : List Int} {w w' : World} {g : Nat} (h : OwnJ B (.slice a n c) l w) (ho : Only g w w') (hne : ∀ x, a = some x → x.block ≠ g) : OwnJ B (.slice a n c) l w' :=
  h.same (fun x hx => ho.block _ (h.lo x hx).2 (hne x hx))

theorem OwnJ.alloc {B c n : Nat} {a : Option Addr} {l : List Int} {w : World} (p : OwnJ B (.slice a n c) l w) (o : Obj) : OwnJ B (.slice a n c) l (w.alloc o) :=
  p.below ((Below.refl _ _).alloc (Nat.le_refl _) o)

theorem OwnJ.set {B c n : Nat} {a : Option Addr} {l : List Int} {w : World} {p : Addr} (h : OwnJ B (.slice a n c) l w) (hp : ∀ x, a = some x → x.block ≠ p.block) (v : Value) : OwnJ B (.slice a n c) l (w.setCell p v) :=
  h.same (fun x hx => Below.heap_setCell _ _ _ _ (hp x hx))

theorem OwnJ.stored {B n c g off : Nat} {l : List Int} {w : World} (h : OwnJ B (.slice (some ⟨g, off, none⟩) n c) l w) (hl : l.length = n) {k : Nat} (hk : k < n) (x : Int) : OwnJ B (.slice (some ⟨g, off, none⟩) n c) (l.set k x) (w.setCell ⟨g, off + k, none⟩ (.int .i64 x)) := by
  obtain ⟨_, _, _, hv, _, ⟨h1, _, _⟩ | ⟨g', off', cur, hg, hB, hh, hc⟩⟩ := h
  · cases hv; cases h1
  · cases hv
    cases hg
    refine ⟨_, _, _, rfl, by rw [List.length_set]; exact hl, .inr ⟨g, off, cur.setIfInBounds (off + k) (.int .i64 x), rfl, hB, ?_, fun i hi => ?_⟩⟩
    · exact set_cells hh (off + k) (.int .i64 x)
    · by_cases e : i = k
      · subst e
        have hlt : off + i < cur.size := by
          have := hc i hi
          rcases Nat.lt_or_ge (off + i) cur.size with h | h
          · exact h
          · rw [Array.getElem?_eq_none h] at this; cases this
        rw [Array.getElem?_setIfInBounds_self_of_lt hlt, List.getD_eq_getElem?_getD, List.getElem?_set_self (by omega)]
        rfl
      · rw [Array.getElem?_setIfInBounds_ne (by omega), List.getD_eq_getElem?_getD, List.getElem?_set_ne (by omega), ← List.getD_eq_getElem?_getD]
        exact hc i hi

set_option maxHeartbeats 1000000 in
/-- Two rows of numbers that are alike. -/
theorem eqIntS_row {a b : Option Addr} {ca cb : Nat} {l : List Int} {w : World} {n : Nat} (hn : l.length = n) (ha : RowI w a l) (hb : RowI w b l) (hl : (n : Int) ≤ 9223372036854775807) :
    Calls Tryd.prog 56 #[.slice a n ca, .slice b n cb] w (Gives (.bool true) w) := by
  have HN := Lib.hid hn
  have HA := Lib.hid ha
  have HB := Lib.hid hb
  clear hn ha hb
  go_enter Tryd.func56, Tryd.ntmps56
  go_wp2_with fail
  go_loopw [5] (fun i wr => ∃ k : Nat, k ≤ n ∧ i = .int .i64 k ∧ ∃ q, wr = w.drewN q) (fun i _ => n - (intOf i).toNat)
  case atStart => exact ⟨0, Nat.zero_le _, rfl, 0, rfl⟩
  case round =>
    obtain ⟨k, hk, rfl, q, rfl⟩ := hrel
    by_cases hlt : k < n
    · obtain ⟨ga, oa, rfl, hca⟩ := HA.out.at (k := k) (by rw [HN.out]; exact hlt)
      obtain ⟨gb, ob, rfl, hcb⟩ := HB.out.at (k := k) (by rw [HN.out]; exact hlt)
      obtain ⟨x, hx⟩ : ∃ x, l.getD k 0 = x := ⟨_, rfl⟩
      rw [hx] at hca hcb
      have txx : (x != x) = false := by simp
      clear hx
      go_wp2_with fail
      go_quiet (fail)
      go_wp2
      go_roundw
      case rel => exact ⟨k + 1, by omega, by go_num, _, rfl⟩
      case measure => simp [intOf]; omega
    · go_wp2_with fail
      go_ret
      exact ⟨rfl, rfl, rfl, rfl, Nat.le_refl _, fun _ _ => rfl⟩

set_option maxHeartbeats 1000000 in
theorem markIntS_j {B : Nat} {a : Option Addr} {c : Nat} {l : List Int} {w : World} {n : Nat} (hn : l.length = n) (h : OwnJ B (.slice a n c) l w) (k0 : Nat) (h1 : k0 + n ≤ 1000000000) (g0 : Nat) (hg0 : ∀ x, a = some x → x.block = g0) :
    Calls Tryd.prog 58 #[.slice a n c, .int .i64 k0] w fun e w' => e = .returned (.int .i64 ((k0 + n : Nat) : Int)) ∧ OwnJ B (.slice a n c) (marksI k0 n) w' ∧ Only g0 w w' := by
  have HN := Lib.hid hn
  have HO := Lib.hid h
  have HG0 := Lib.hid hg0
  clear hn h hg0
  go_enter Tryd.func58, Tryd.ntmps58
  go_wp2_with fail
  go_loopw [1, 5] (fun m i wr => ∃ k : Nat, k ≤ n ∧ i = .int .i64 k ∧ m = .int .i64 ((k0 + k : Nat) : Int) ∧ OwnJ B (.slice a n c) (marksI k0 k ++ l.drop k) wr ∧ Only g0 w wr) (fun _ i _ => n - (intOf i).toNat)
  case atStart => exact ⟨0, Nat.zero_le _, rfl, rfl, by simpa [marksI] using HO.out, Only.refl _ _⟩
  case round =>
    obtain ⟨k, hk, rfl, rfl, hown, hok⟩ := hrel
    by_cases hlt : k < n
    · have hlen : (marksI k0 k ++ l.drop k).length = n := by have := HN.out; simp [marksI_length]; omega
      obtain ⟨g, off, rfl, hc, hf, hB, hg⟩ := hown.at (k := k) (by rw [hlen]; exact hlt)
      have HL := Lib.hid hlen
      obtain ⟨old, hco⟩ : ∃ u, wr.cell? ⟨g, off + k, none⟩ = some u := ⟨_, hc⟩
      have HO2 := Lib.hid hown
      have HK2 := Lib.hid hok
      have HGG : Hid (g = g0) := HG0.out _ rfl
      have HST := Lib.hid (marksI_step k0 k l (by have := HN.out; omega))
      clear hc hlen hown hok
      go_wp2_with fail
      have R2 : OwnJ B (.slice (some ⟨g, off, none⟩) n c) (marksI k0 (k + 1) ++ l.drop (k + 1)) (wr.setCell ⟨g, off + k, none⟩ (.int .i64 ((k0 : Int) + (k : Int)))) := by
        rw [← HST.out]
        have := HO2.out.stored HL.out hlt (((k0 + k : Nat) : Int))
        rwa [show ((k0 + k : Nat) : Int) = (k0 : Int) + (k : Int) by simp] at this
      have HK3 := Lib.hid (HK2.out.setCell (p := ⟨g, off + k, none⟩) HGG.out (.int .i64 ((k0 : Int) + (k : Int))))
      go_roundw
      case rel => exact ⟨k + 1, by omega, by go_num, by go_num, R2, HK3.out⟩
      case measure => simp [intOf]; omega
    · obtain rfl : k = n := by omega
      have HF := Lib.hid hown
      go_wp2_with fail
      go_ret
      exact ⟨by first | rfl | exact ret_i (by omega), by have := HF.out; rwa [List.drop_of_length_le (by have := HN.out; omega), List.append_nil] at this, hok⟩

theorem marksI_getD (k0 : Nat) {n k : Nat} (h : k < n) : (marksI k0 n).getD k 0 = ((k0 + k : Nat) : Int) := by
  rw [List.getD_eq_getElem?_getD, List.getElem?_eq_getElem (by rw [marksI_length]; exact h), marksI_get]
  rfl

set_option maxHeartbeats 1000000 in
theorem heldIntS_row {a : Option Addr} {c : Nat} {n : Nat} {w : World} (k0 : Nat) (h : RowI w a (marksI k0 n)) (h1 : k0 + n ≤ 1000000000) :
    Calls Tryd.prog 60 #[.slice a n c, .int .i64 k0] w (Gives (.int .i64 ((k0 + n : Nat) : Int)) w) := by
  have HO := Lib.hid h
  clear h
  go_enter Tryd.func60, Tryd.ntmps60
  go_wp2_with fail
  go_loop [1, 5] (fun m i => ∃ k : Nat, k ≤ n ∧ i = .int .i64 k ∧ m = .int .i64 ((k0 + k : Nat) : Int)) (fun _ i => n - (intOf i).toNat)
  case atStart => exact ⟨0, Nat.zero_le _, rfl, rfl⟩
  case round =>
    obtain ⟨k, hk, rfl, rfl⟩ := hrel
    by_cases hlt : k < n
    · obtain ⟨g, off, rfl, hc⟩ := HO.out.at (k := k) (by rw [marksI_length]; exact hlt)
      rw [marksI_getD k0 hlt] at hc
      have hc' : w.cell? ⟨g, off + k, none⟩ = some (.int .i64 ((k0 : Int) + (k : Int))) := by rw [hc]; simp
      have txx : ((k0 : Int) + (k : Int) != (k0 : Int) + (k : Int)) = false := by simp
      clear hc
      go_wp2_with fail
      go_round
      case rel => exact ⟨k + 1, by omega, by go_num, by go_num⟩
      case measure => simp [intOf]; omega
    · obtain rfl : k = n := by omega
      go_wp2_with fail
      go_ret
      exact ⟨by first | rfl | exact ret_i (by omega), Below.refl _ _⟩

/-- A call that answers a summary whose rows are its own, the second one anywhere in its block. -/
def GivesRj (n1 n2 : Nat) (la ac : List Int) (w : World) (e : Ending) (w' : World) : Prop :=
  ∃ a1 c1 a2 c2, e = .returned (.agg #[.slice a1 n1 c1, .slice a2 n2 c2]) ∧ OwnI w.heap.size (.slice a1 n1 c1) la w' ∧ OwnJ w.heap.size (.slice a2 n2 c2) ac w' ∧ Apt a1 a2 ∧ Below w.heap.size w w'

theorem GivesRd.toJ {n1 n2 : Nat} {la ac : List Int} {w w' : World} {e : Ending} (hn : ac.length = n2) (h : GivesRd n1 n2 la ac w e w') : GivesRj n1 n2 la ac w e w' := by
  obtain ⟨a1, c1, a2, c2, rfl, o1, o2, hp, hb⟩ := h
  exact ⟨a1, c1, a2, c2, rfl, o1, o2.toJ hn, hp, hb⟩

end Go.Proofs.YtfpfgaifhmgpiaaDoor

namespace Go.Proofs.YtfpfgaifhmgpiaaDoor
open Go.RowKit Go.PlainAid

set_option linter.unusedVariables false

def intK : Kn Int := Kn.flat (fun x => [.int .i64 x]) 1 (fun _ => rfl)

def boolK : Kn Bool := Kn.flat (fun b => [.bool b]) 1 (fun _ => rfl)

/-- Slices of ints. -/
def intsK : Kn (List Int) := intK.row 3

theorem intK_rds {w : World} : ∀ {l : List Int} {xs : List Value}, intK.rds w xs l → xs = l.map (Value.int .i64)
  | [], xs, h => h
  | x :: l, xs, ⟨c1, c2, e, h1, h2⟩ => by
    rw [e, show c1 = [.int .i64 x] from h1, intK_rds h2]
    rfl

theorem intK_owns (w : World) : ∀ (l : List Int), intK.owns w [] (l.map (Value.int .i64)) l
  | [] => ⟨rfl, rfl⟩
  | x :: l => ⟨[], [], [.int .i64 x], _, rfl, rfl, ⟨rfl, rfl⟩, intK_owns w l⟩

theorem intK_owns_nil {w : World} : ∀ {l : List Int} {S : List Nat} {xs : List Value}, intK.owns w S xs l → S = []
  | [], _, _, h => h.1
  | x :: l, _, _, ⟨S1, S2, c1, c2, e, _, h1, h2⟩ => by rw [e, h1.1, intK_owns_nil h2]; rfl

theorem map_int_get (l : List Int) {j : Nat} (hj : j < l.length) : (l.map (Value.int .i64))[j]? = some (.int .i64 (l.getD j 0)) := by
  rw [List.getElem?_map, List.getElem?_eq_getElem hj, List.getD_eq_getElem?_getD, List.getElem?_eq_getElem hj]
  rfl

/-- A row of ints that is read, in the older word. -/
theorem ints_row {w : World} {a : Option Addr} {n c : Nat} {l : List Int} (h : intsK.rd w [.slice a n c] l) : RowI w a l := by
  obtain ⟨a', n', c', xs, e, h1, h2, h3, h4, h5⟩ := h
  simp only [List.cons.injEq, Value.slice.injEq, and_true] at e
  obtain ⟨rfl, rfl, rfl⟩ := e
  have hx := intK_rds h4
  subst hx
  rcases h5 with h5 | ⟨g, off, ha, hc⟩
  · exact .inl h5
  · refine .inr ⟨g, off, ha, fun j hj => ?_⟩
    have := hc j (by rw [List.length_map]; exact hj)
    rw [map_int_get l hj] at this
    exact this

theorem ints_own {w : World} {S : List Nat} {a : Option Addr} {n c : Nat} {l : List Int} (h : intsK.own w S [.slice a n c] l) : (l = [] ∧ S = []) ∨ (OwnJ 0 (.slice a n c) l w ∧ ∃ g off, a = some ⟨g, off, none⟩ ∧ S = [g]) := by
  obtain ⟨a', n', c', xs, S', e, h1, h2, h3, h4, h5⟩ := h
  simp only [List.cons.injEq, Value.slice.injEq, and_true] at e
  obtain ⟨rfl, rfl, rfl⟩ := e
  have hx := intK_rds (intK.owns_rds h3)
  have hS := intK_owns_nil h3
  subst hx
  subst hS
  rcases h5 with ⟨ha, hc, hS⟩ | ⟨g, off, cur, ha, hh, hc, hS⟩
  · exact .inl ⟨ha, hS⟩
  · refine .inr ⟨⟨a, n, c, rfl, h1, .inr ⟨g, off, cur, ha, Nat.zero_le _, hh, fun i hi => ?_⟩⟩, g, off, ha, hS⟩
    rw [hc i (by rw [List.length_map]; omega), map_int_get l (by omega)]

theorem ints_of_own {B : Nat} {w : World} {a : Option Addr} {n c : Nat} {l : List Int} (h : OwnJ B (.slice a n c) l w) (hc : n ≤ c) (hm : n ≤ maxLen) : ∃ S, intsK.own w S [.slice a n c] l ∧ ((l = [] ∧ S = []) ∨ (l ≠ [] ∧ ∃ g off, a = some ⟨g, off, none⟩ ∧ S = [g] ∧ B ≤ g)) := by
  obtain ⟨a', n', c', e, hl, h5⟩ := h
  cases e
  by_cases h0 : l = []
  · subst h0
    refine ⟨[], ⟨a, n, c, _, [], rfl, hl, ⟨hc, hm⟩, intK_owns w [], List.nodup_nil, .inl ⟨rfl, ?_, rfl⟩⟩, .inl ⟨rfl, rfl⟩⟩
    rcases h5 with ⟨ha, hn, h0⟩ | ⟨g, off, cur, ha, _⟩
    · exact fun _ => h0
    · intro h; rw [ha] at h; cases h
  rcases h5 with ⟨ha, hn, _⟩ | ⟨g, off, cur, ha, hB, hh, hcur⟩
  · exact absurd (List.length_eq_zero_iff.1 (by omega)) h0
  · refine ⟨[g], ⟨a, n, c, _, [], rfl, hl, ⟨hc, hm⟩, intK_owns w l, List.nodup_cons.2 ⟨List.not_mem_nil, List.nodup_nil⟩, .inr ⟨g, off, cur, ha, hh, fun j hj => ?_, rfl⟩⟩, .inr ⟨h0, g, off, ha, rfl, hB⟩⟩
    rw [List.length_map] at hj
    rw [hcur j (by omega), map_int_get l hj]

/-- A row of elements that is being built: it begins its block; behind it stand the blocks S. -/
def Kn.Bld {α : Type} (k : Kn α) (T : TypeId) (B : Nat) (w : World) (S : List Nat) (v : Value) (l : List α) : Prop :=
  ∃ xs, w.ownsRow B T k.K v l.length xs ∧ k.owns w S xs l ∧ S.Nodup ∧ (∀ b ∈ S, B ≤ b) ∧ ∀ g, v.ownBlock = some g → g ∉ S

variable {α : Type}

theorem Kn.Bld.nil (k : Kn α) (T : TypeId) (B : Nat) (w : World) : k.Bld T B w [] (.slice none 0 0) ([] : List α) :=
  ⟨[], World.ownsRow_nil _ _ _ _, ⟨rfl, rfl⟩, List.nodup_nil, (fun b hb => by cases hb), fun g hg => by cases hg⟩

theorem Kn.Bld.below {k : Kn α} {T : TypeId} {B : Nat} {w w' : World} {S : List Nat} {v : Value} {l : List α} (h : k.Bld T B w S v l) (hb : Below w.heap.size w w') : k.Bld T B w' S v l := by
  obtain ⟨xs, h1, h2, h3, h4, h5⟩ := h
  refine ⟨xs, ⟨h1.1, ?_⟩, k.owns_same h2 (fun b hm => hb.block b (k.owns_lt h2 b hm)), h3, h4, h5⟩
  rcases h1.2 with hv | ⟨b, cap, cur, hv, hB, hh, r⟩
  · exact .inl hv
  · exact .inr ⟨b, cap, cur, hv, hB, by rw [hb.block b (lt_of_block hh)]; exact hh, r⟩

theorem Kn.Bld.shape {k : Kn α} {T : TypeId} {B : Nat} {w : World} {S : List Nat} {v : Value} {l : List α} (h : k.Bld T B w S v l) : ∃ a c, v = .slice a l.length c ∧ l.length ≤ c ∧ c ≤ maxLen := by
  obtain ⟨xs, h1, _⟩ := h
  rcases h1.2 with ⟨rfl, h0⟩ | ⟨g, cap, cur, rfl, _, _, h2, h3, _⟩
  · exact ⟨none, 0, by rw [h0], by omega, Nat.zero_le _⟩
  · exact ⟨_, cap, rfl, h2, h3⟩

/-- What has been built is the call's own. -/
theorem Kn.Bld.own {k : Kn α} {T : TypeId} {B : Nat} {w : World} {S : List Nat} {v : Value} {l : List α} (h : k.Bld T B w S v l) : ∃ S', (k.row T).own w S' [v] l ∧ ∀ b ∈ S', B ≤ b := by
  obtain ⟨xs, h1, h2, h3, h4, h5⟩ := h
  have hx := k.rds_len (k.owns_rds h2)
  rcases h1.2 with ⟨rfl, h0⟩ | ⟨g, cap, cur, rfl, hB, hh, hn, hm, hcs, ht⟩
  · have hl : l = [] := List.length_eq_zero_iff.1 h0
    subst hl
    exact ⟨[], ⟨none, 0, 0, xs, S, rfl, rfl, ⟨Nat.le_refl _, Nat.zero_le _⟩, h2, List.nodup_nil, .inl ⟨rfl, fun _ => rfl, rfl⟩⟩, fun b hb => by cases hb⟩
  · refine ⟨g :: S, ⟨_, _, _, xs, S, rfl, rfl, ⟨hn, Nat.le_trans hn hm⟩, h2, List.nodup_cons.2 ⟨h5 g rfl, h3⟩, .inr ⟨g, 0, cur, rfl, hh, fun j hj => ?_, rfl⟩⟩, fun b hb => ?_⟩
    · have h6 : (cur.toList.take (l.length * k.K))[j]? = xs[j]? := by rw [ht]
      rw [List.getElem?_take_of_lt (by omega), Array.getElem?_toList] at h6
      rw [Nat.zero_add]
      exact h6
    · rcases List.mem_cons.1 hb with rfl | h
      · exact hB
      · exact h4 b h

theorem Kn.owns_snoc (k : Kn α) {w : World} {x : α} {S2 : List Nat} {cs : List Value} (hx : k.own w S2 cs x) : ∀ {l : List α} {S : List Nat} {xs : List Value}, k.owns w S xs l → k.owns w (S ++ S2) (xs ++ cs) (l ++ [x])
  | [], _, _, h => ⟨S2, [], cs, [], by rw [h.1]; simp, by rw [h.2]; simp, hx, rfl, rfl⟩
  | y :: l, _, _, ⟨S1, T, c1, c2, e1, e2, h1, h2⟩ => ⟨S1, T ++ S2, c1, c2 ++ cs, by rw [e1]; simp, by rw [e2]; simp, h1, k.owns_snoc hx h2⟩

/-- One element more: what an append leaves. -/
theorem Kn.Bld.more {k : Kn α} {T : TypeId} {B : Nat} {w w2 w3 : World} {S S2 : List Nat} {v v' : Value} {l : List α} {x : α} {cs xs : List Value}
    (h1 : k.owns w2 S xs l) (h3 : S.Nodup) (h4 : ∀ b ∈ S, B ≤ b) (h5 : ∀ g, v.ownBlock = some g → g ∉ S)
    (hx : k.own w2 S2 cs x) (hB : ∀ b ∈ S2, B ≤ b) (hd : ∀ b ∈ S2, b ∉ S) (hv : ∀ g, v.ownBlock = some g → g ∉ S2)
    (ho : w3.ownsRow B T k.K v' (l.length + 1) (xs ++ cs)) (hg : w2.grownBy w3 v.ownBlock) (hat : v'.ownBlock = v.ownBlock ∨ v'.ownBlock = some w2.heap.size) :
    k.Bld T B w3 (S ++ S2) v' (l ++ [x]) := by
  have hne : ∀ b, b ∈ S ++ S2 → w3.heap[b]? = w2.heap[b]? := fun b hb => by
    rcases List.mem_append.1 hb with h | h
    · exact hg.block b (k.owns_lt h1 b h) (fun e => h5 b e.symm h)
    · exact hg.block b (k.lt hx b h) (fun e => hv b e.symm h)
  refine ⟨xs ++ cs, by rw [List.length_append]; exact ho, k.owns_same (k.owns_snoc hx h1) hne, ?_, fun b hb => ?_, fun g hgv => ?_⟩
  · rw [List.nodup_append]
    exact ⟨h3, k.nodup hx, fun a ha b hb e => hd b hb (e ▸ ha)⟩
  · rcases List.mem_append.1 hb with h | h
    · exact h4 b h
    · exact hB b h
  · intro hm
    rcases hat with e | e
    · rw [e] at hgv
      rcases List.mem_append.1 hm with h | h
      · exact h5 g hgv h
      · exact hv g hgv h
    · rw [e] at hgv
      have := Option.some.inj hgv
      rcases List.mem_append.1 hm with h | h
      · have := k.owns_lt h1 g h; omega
      · have := k.lt hx g h; omega

/-- Elements that are all zero. -/
theorem Kn.owns_replicate (k : Kn α) {w : World} {z : α} {zc : List Value} (hz : k.own w [] zc z) : ∀ n, k.owns w [] (List.replicate n zc).flatten (List.replicate n z)
  | 0 => ⟨rfl, rfl⟩
  | n + 1 => ⟨[], [], zc, _, rfl, by rw [List.replicate_succ, List.flatten_cons], hz, k.owns_replicate hz n⟩

theorem made_flat (zc : List Value) (K n : Nat) (hz : zc.length = K) (hK : 0 < K) : (madeCells zc.toArray (n * K)).toList = (List.replicate n zc).flatten := by
  have h := (Kd.mk (fun _ : Unit => zc) () K (fun _ => hz) hK).made n
  rw [show (List.replicate n zc).flatten = (List.replicate n ()).flatMap (fun _ : Unit => zc) by
    clear h
    induction n with
    | zero => rfl
    | succ n ih => rw [List.replicate_succ, List.replicate_succ, List.flatten_cons, List.flatMap_cons, ih]]
  exact h

/-- What make leaves. -/
theorem Kn.Bld.made {k : Kn α} {T : TypeId} {B n : Nat} {w : World} {v : Value} {z : α} {zc : List Value} (hz : k.own w [] zc z) (hK : 0 < k.K) (h : w.ownsRow B T k.K v n (madeCells zc.toArray (n * k.K)).toList) : k.Bld T B w [] v (List.replicate n z) := by
  have hl := k.len (k.read hz)
  rw [made_flat zc k.K n hl hK] at h
  exact ⟨_, by rw [List.length_replicate]; exact h, k.owns_replicate hz n, List.nodup_nil, (fun b hb => by cases hb), fun g hg hm => by cases hm⟩

end Go.Proofs.YtfpfgaifhmgpiaaDoor

namespace Go.Proofs.YtfpfgaifhmgpiaaDoor
open Go.RowKit Go.PlainAid

set_option linter.unusedVariables false

variable {α : Type}

/-- The marks that elements take, all told. -/
def cntL (cnt : α → Nat) : List α → Nat
  | [] => 0
  | x :: l => cnt x + cntL cnt l

/-- A row marked from k on. -/
def mkL (mk : α → Nat → α) (cnt : α → Nat) : Nat → List α → List α
  | _, [] => []
  | k, x :: l => mk x k :: mkL mk cnt (k + cnt x) l

theorem mkL_length (mk : α → Nat → α) (cnt : α → Nat) : ∀ (l : List α) (k : Nat), (mkL mk cnt k l).length = l.length
  | [], _ => rfl
  | x :: l, k => by rw [mkL, List.length_cons, mkL_length mk cnt l, List.length_cons]

theorem mkL_get (mk : α → Nat → α) (cnt : α → Nat) : ∀ (l : List α) (k i : Nat) (hi : i < l.length) (hi' : i < (mkL mk cnt k l).length), (mkL mk cnt k l)[i] = mk l[i] (k + cntL cnt (l.take i))
  | x :: l, k, 0, _, _ => by simp [mkL, cntL]
  | x :: l, k, i + 1, hi, hi' => by
    have h := mkL_get mk cnt l (k + cnt x) i (Nat.lt_of_succ_lt_succ hi) (by rw [mkL_length]; exact Nat.lt_of_succ_lt_succ hi)
    show (mkL mk cnt (k + cnt x) l)[i]'_ = mk (l[i]'(Nat.lt_of_succ_lt_succ hi)) (k + cntL cnt (x :: l.take i))
    rw [h, cntL, Nat.add_assoc]

theorem cntL_take (cnt : α → Nat) : ∀ (l : List α) (i : Nat) (hi : i < l.length), cntL cnt (l.take (i + 1)) = cntL cnt (l.take i) + cnt l[i]
  | x :: l, 0, _ => by simp [cntL]
  | x :: l, i + 1, hi => by
    have h := cntL_take cnt l i (Nat.lt_of_succ_lt_succ hi)
    show cnt x + cntL cnt (l.take (i + 1)) = cnt x + cntL cnt (l.take i) + cnt (l[i]'(Nat.lt_of_succ_lt_succ hi))
    rw [h, Nat.add_assoc]

theorem cntL_take_le (cnt : α → Nat) : ∀ (l : List α) (i : Nat), cntL cnt (l.take i) ≤ cntL cnt l
  | [], i => by simp
  | x :: l, 0 => by simp [cntL]
  | x :: l, i + 1 => by
    have h := cntL_take_le cnt l i
    show cnt x + cntL cnt (l.take i) ≤ cnt x + cntL cnt l
    omega

/-- The first m elements marked. -/
def mkP (mk : α → Nat → α) (cnt : α → Nat) (k : Nat) (l : List α) (m : Nat) : List α := (mkL mk cnt k l).take m ++ l.drop m

theorem mkP_zero (mk : α → Nat → α) (cnt : α → Nat) (k : Nat) (l : List α) : mkP mk cnt k l 0 = l := by simp [mkP]

theorem mkP_all (mk : α → Nat → α) (cnt : α → Nat) (k : Nat) (l : List α) : mkP mk cnt k l l.length = mkL mk cnt k l := by
  unfold mkP
  rw [List.take_of_length_le (by rw [mkL_length]; exact Nat.le_refl _), List.drop_of_length_le (Nat.le_refl _), List.append_nil]

theorem mkP_length (mk : α → Nat → α) (cnt : α → Nat) (k : Nat) (l : List α) (m : Nat) (hm : m ≤ l.length) : (mkP mk cnt k l m).length = l.length := by
  unfold mkP
  rw [List.length_append, List.length_take, List.length_drop, mkL_length]
  omega

theorem mkP_at (mk : α → Nat → α) (cnt : α → Nat) (k : Nat) (l : List α) (m : Nat) (hm : m < l.length) (hm' : m < (mkP mk cnt k l m).length) : (mkP mk cnt k l m)[m] = l[m] := by
  have h1 : ((mkL mk cnt k l).take m).length = m := by rw [List.length_take, mkL_length]; omega
  have h : (mkP mk cnt k l m)[m]? = some l[m] := by
    unfold mkP
    rw [List.getElem?_append_right (by omega), h1, Nat.sub_self, List.getElem?_drop, Nat.add_zero, List.getElem?_eq_getElem hm]
  exact Option.some.inj ((List.getElem?_eq_getElem hm').symm.trans h)

theorem mkP_set (mk : α → Nat → α) (cnt : α → Nat) (k : Nat) (l : List α) (m : Nat) (hm : m < l.length) : (mkP mk cnt k l m).set m (mk l[m] (k + cntL cnt (l.take m))) = mkP mk cnt k l (m + 1) := by
  have h1 : ((mkL mk cnt k l).take m).length = m := by rw [List.length_take, mkL_length]; omega
  unfold mkP
  rw [List.set_append_right _ _ (by omega), h1, Nat.sub_self, List.drop_eq_getElem_cons hm, List.set_cons_zero, List.take_succ_eq_append_getElem (by rw [mkL_length]; exact hm), mkL_get mk cnt l k m hm, List.append_assoc]
  rfl

theorem intsK_shape {w : World} {cs : List Value} {l : List Int} (h : intsK.rd w cs l) : ∃ a n c, cs = [.slice a n c] ∧ l.length = n ∧ n ≤ c ∧ n ≤ maxLen ∧ (a = none → c = 0) := by
  obtain ⟨a, n, c, xs, e, h1, h2, h3, _⟩ := h
  exact ⟨a, n, c, e, h1, h2.1, h2.2, h3⟩

theorem eqIntS_k {a b : Option Addr} {n ca m cb : Nat} {l : List Int} {w : World} (ha : intsK.rd w [.slice a n ca] l) (hb : intsK.rd w [.slice b m cb] l) :
    Calls Tryd.prog 56 #[.slice a n ca, .slice b m cb] w (Gives (.bool true) w) := by
  obtain ⟨h1, h2, h3, _⟩ := Kn.row_len ha
  obtain ⟨k1, _⟩ := Kn.row_len hb
  obtain rfl : n = m := by omega
  exact eqIntS_row h1 (ints_row ha) (ints_row hb) (by unfold maxLen at h3; omega)

theorem markIntS_k {a : Option Addr} {n c : Nat} {l : List Int} {S : List Nat} {w : World} (h : intsK.own w S [.slice a n c] l) (k0 : Nat) (hk : k0 + l.length ≤ 1000000000) :
    Calls Tryd.prog 58 #[.slice a n c, .int .i64 k0] w fun e w' => e = .returned (.int .i64 ((k0 + l.length : Nat) : Int)) ∧ intsK.own w' S [.slice a n c] (marksI k0 l.length) ∧ OnlyS S w w' := by
  obtain ⟨h1, h2, h3, _⟩ := Kn.row_len (intsK.read h)
  subst h1
  by_cases h0 : l = []
  · subst h0
    have HO := Lib.hid h
    clear h hk h2 h3
    go_enter Tryd.func58, Tryd.ntmps58
    go_wp2_with fail
    go_loopw [1, 5] (fun m i wr => m = .int .i64 (k0 : Int) ∧ i = .int .i64 0 ∧ wr = w) (fun _ _ _ => 0)
    case atStart => exact ⟨rfl, rfl, by trivial⟩
    case round =>
      obtain ⟨rfl, rfl, rfl⟩ := hrel
      go_wp2_with fail
      go_ret
      exact ⟨rfl, HO.out, OnlyS.refl _ _⟩
  rcases ints_own h with ⟨h1, _⟩ | ⟨hJ, g, off, ha, hS⟩
  · exact absurd h1 h0
  refine (markIntS_j rfl hJ k0 hk g (fun x hx => (by rw [ha] at hx; cases hx; rfl))).mono ?_
  rintro e w' ⟨rfl, hJ', ho⟩
  obtain ⟨S', hown, hS'⟩ := ints_of_own hJ' h2 h3
  have hw := ho.onlyS
  rcases hS' with ⟨e1, _⟩ | ⟨_, g', off', ha', e', _⟩
  · refine absurd (List.length_eq_zero_iff.1 ?_) h0
    rw [← marksI_length k0 l.length, e1]
    rfl
  · rw [ha] at ha'
    cases ha'
    rw [hS, ← e']
    exact ⟨rfl, hown, by rw [e']; exact hw⟩

theorem heldIntS_k {a : Option Addr} {c n m : Nat} {w : World} (k0 : Nat) (h : intsK.rd w [.slice a n c] (marksI k0 m)) (h1 : k0 + m ≤ 1000000000) :
    Calls Tryd.prog 60 #[.slice a n c, .int .i64 k0] w (Gives (.int .i64 ((k0 + m : Nat) : Int)) w) := by
  obtain ⟨h2, _⟩ := Kn.row_len h
  rw [marksI_length] at h2
  subst h2
  exact heldIntS_row k0 (ints_row h) h1

/-- A call that answers a value of the call's own: a single cell. -/
def GivesK (k : Kn α) (x : α) (w : World) (e : Ending) (w' : World) : Prop := ∃ v S, e = .returned v ∧ k.own w' S [v] x ∧ (∀ b ∈ S, w.heap.size ≤ b) ∧ Below w.heap.size w w'

theorem toIntS_k {a : Option Addr} {n c : Nat} {l : List Int} {w : World} (h : intsK.rd w [.slice a n c] l) (hl : l.length ≤ 4000000) :
    Calls Tryd.prog 68 #[.slice a n c] w (GivesK intsK l w) := by
  obtain ⟨h1, h2, h3, _⟩ := Kn.row_len h
  refine (toIntS_is a n c l h1 (by omega) w (ints_row h)).mono ?_
  rintro e w' ⟨a', c', rfl, hown, hb⟩
  have hc : l.length ≤ c' := by
    rcases hown.2 with ⟨hv, h0⟩ | ⟨g, cap, cur, hv, _, _, h4, _⟩
    · simp only [Value.slice.injEq] at hv; omega
    · simp only [Value.slice.injEq] at hv; omega
  obtain ⟨S, ho, hS⟩ := ints_of_own (OwnI.toJ rfl hown) hc (by omega)
  refine ⟨_, S, rfl, ho, fun b hb' => ?_, hb⟩
  rcases hS with ⟨_, e⟩ | ⟨_, g, off, _, e, hB⟩
  · rw [e] at hb'; cases hb'
  · rw [e] at hb'
    rw [List.mem_singleton.1 hb']
    exact hB

/-- What is left of k when so many are taken. -/
def szF (k : Int) (t : Nat) : Int := if k - t < 0 then -1 else k - t

theorem szIntS_k (ad : Option Addr) (n cap : Nat) (k v : Int) (hn : n ≤ maxLen) (h0 : 0 ≤ k) (hk : k ≤ 1048576) (hv : szF k n = v) (w : World) :
    Calls Tryd.prog 62 #[.slice ad n cap, .int .i64 k] w (Gives (.int .i64 v) w) := by
  have HV := Lib.hid hv
  unfold maxLen at hn
  have e1 : IntKind.i64.wrap (k - (n : Int)) = k - (n : Int) := IntWalk.i64_in _ ⟨by omega, by omega⟩
  clear hv
  by_cases hlt : k - (n : Int) < 0
  · have HE : Hid (v = -1) := by show _ = _; rw [← HV.out]; exact if_pos hlt
    go_enter Tryd.func62, Tryd.ntmps62
    go_wp2
    go_ret
    exact ⟨ret_i HE.out.symm, Below.refl _ _⟩
  · have HE : Hid (v = k - n) := by show _ = _; rw [← HV.out]; exact if_neg hlt
    have hge : 0 ≤ k - (n : Int) := by omega
    go_enter Tryd.func62, Tryd.ntmps62
    go_wp2
    go_ret
    exact ⟨ret_i HE.out.symm, Below.refl _ _⟩

end Go.Proofs.YtfpfgaifhmgpiaaDoor

namespace Go.Proofs.YtfpfgaifhmgpiaaDoor
open Go.RowKit Go.PlainAid

set_option linter.unusedVariables false

variable {α β : Type}

/-- The blocks of a value are of these types. -/
def Kn.Ty (k : Kn α) (Ts : List TypeId) : Prop := ∀ {w : World} {S : List Nat} {cs : List Value} {x : α}, k.own w S cs x → ∀ b ∈ S, ∃ vs T fr, w.heap[b]? = some (.cells vs T fr) ∧ T ∈ Ts

theorem Kn.Ty.flat (vs : α → List Value) (n : Nat) (hl : ∀ x, (vs x).length = n) : (Kn.flat vs n hl).Ty [] := fun h b hb => by
  rw [h.1] at hb
  cases hb

theorem Kn.Ty.pair {k : Kn α} {m : Kn β} {A B C : List TypeId} (hk : k.Ty A) (hm : m.Ty B) (ha : ∀ t ∈ A, t ∈ C) (hb : ∀ t ∈ B, t ∈ C) : (k.pair m).Ty C := fun h b hb' => by
  obtain ⟨S1, S2, _, _, e, _, h1, h2, _⟩ := h
  rw [e] at hb'
  rcases List.mem_append.1 hb' with q | q
  · obtain ⟨vs, T, fr, h3, h4⟩ := hk h1 b q
    exact ⟨vs, T, fr, h3, ha _ h4⟩
  · obtain ⟨vs, T, fr, h3, h4⟩ := hm h2 b q
    exact ⟨vs, T, fr, h3, hb _ h4⟩

theorem Kn.Ty.owns {k : Kn α} {A : List TypeId} (hk : k.Ty A) {w : World} : ∀ {l : List α} {S : List Nat} {cs : List Value}, k.owns w S cs l → ∀ b ∈ S, ∃ vs T fr, w.heap[b]? = some (.cells vs T fr) ∧ T ∈ A
  | [], S, _, h, b, hb => by rw [h.1] at hb; cases hb
  | x :: l, S, _, ⟨S1, S2, _, _, e, _, h1, h2⟩, b, hb => by
    rw [e] at hb
    rcases List.mem_append.1 hb with h | h
    · exact hk h1 b h
    · exact hk.owns h2 b h

theorem Kn.Ty.row {T : TypeId} {k : Kn α} {A C : List TypeId} (hk : k.Ty A) (ha : ∀ t ∈ A, t ∈ C) (hT : T ∈ C) : (Kn.row T k).Ty C := fun h b hb => by
  obtain ⟨a, n, c, xs, S', e, h1, h2, h3, h4, h5⟩ := h
  rcases h5 with ⟨_, _, h⟩ | ⟨g, off, cur, ha', hh, hc, h⟩
  · rw [h] at hb; cases hb
  · rw [h] at hb
    rcases List.mem_cons.1 hb with rfl | hb
    · exact ⟨_, _, _, hh, hT⟩
    · obtain ⟨vs, T', fr, h6, h7⟩ := hk.owns h3 b hb
      exact ⟨vs, T', fr, h6, ha _ h7⟩

theorem Kn.Ty.notin {k : Kn α} {A : List TypeId} (hk : k.Ty A) {w : World} {S : List Nat} {cs : List Value} {x : α} (h : k.own w S cs x) {P : Nat} {vs : Array Value} {T : TypeId} {fr : Nat × Nat} (hP : w.heap[P]? = some (.cells vs T fr)) (hT : T ∉ A) : P ∉ S := fun hb => by
  obtain ⟨vs', T', fr', e, hT'⟩ := hk h P hb
  rw [hP] at e
  cases e
  exact hT hT'

/-- A drawn region's value that is of the call's own. -/
def HasK (k : Kn α) (x : α) (base : Nat) (q : Value) (u : World) : Prop := ∃ cs S, q = .agg cs.toArray ∧ k.own u S cs x ∧ ∀ b ∈ S, base ≤ b

theorem HasK.below {k : Kn α} {x : α} {base : Nat} {q : Value} {u u' : World} (h : HasK k x base q u) (hb : Below u.heap.size u u') : HasK k x base q u' := by
  obtain ⟨cs, S, e, ho, hs⟩ := h
  exact ⟨cs, S, e, k.ownBelow ho hb, hs⟩

/-- The same with a number, a bool or whatever behind it. -/
def HasT (k : Kn α) (x : α) (o : Value) (base : Nat) (q : Value) (u : World) : Prop := ∃ cs S, q = .tuple #[.agg cs.toArray, o] ∧ k.own u S cs x ∧ ∀ b ∈ S, base ≤ b

theorem HasT.below {k : Kn α} {x : α} {o : Value} {base : Nat} {q : Value} {u u' : World} (h : HasT k x o base q u) (hb : Below u.heap.size u u') : HasT k x o base q u' := by
  obtain ⟨cs, S, e, ho, hs⟩ := h
  exact ⟨cs, S, e, k.ownBelow ho hb, hs⟩

/-- From operation s on a variable of this type is there; behind t it holds a value of this kind of the call's own. -/
def MadeK (k : Kn α) (T : TypeId) (Z : Array Value) (s t base : Nat) (y : α) (listed : Array Bool) (x : Nat → Value) (u : World) : Prop :=
  (listed.getD t false = true → listed.getD s false = true) ∧
  (listed.getD s false = true → ∃ g, x s = .pointer (some ⟨g, 0, none⟩) ∧ base ≤ g ∧
    (listed.getD t false = false → u.heap[g]? = some (.cells Z T (0, 0))) ∧
    (listed.getD t false = true → ∃ cs S, u.heap[g]? = some (.cells cs.toArray T (0, 0)) ∧ k.own u S cs y ∧ g ∉ S ∧ ∀ b ∈ S, base ≤ b))

theorem MadeK.zero (k : Kn α) (T : TypeId) (Z : Array Value) (s t base : Nat) (y : α) (n : Nat) (x : Nat → Value) (u : World) : MadeK k T Z s t base y (Array.replicate n false) x u :=
  ⟨fun h => (by rw [getD_replicate_false] at h; cases h), fun h => by rw [getD_replicate_false] at h; cases h⟩

theorem MadeK.keep {k : Kn α} {T : TypeId} {Z : Array Value} {s t base : Nat} {y : α} {listed : Array Bool} {x : Nat → Value} {u u' : World} (h : MadeK k T Z s t base y listed x u) {i : Nat} (hs : i ≠ s) (ht : i ≠ t) (v : Value) (hb : Below u.heap.size u u') :
    MadeK k T Z s t base y (listed.setIfInBounds i true) (upd x i v) u' := by
  refine ⟨fun h1 => ?_, fun h1 => ?_⟩
  · rw [getD_set_ne false ht] at h1
    exact getD_set_true (h.1 h1)
  · rw [getD_set_ne false hs] at h1
    rw [getD_set_ne false ht]
    obtain ⟨g, e, hg, hz, hf⟩ := h.2 h1
    refine ⟨g, by rw [upd_other _ _ (Ne.symm hs)]; exact e, hg, fun h0 => keep_block hb (hz h0) (lt_of_block (hz h0)), fun h0 => ?_⟩
    obtain ⟨cs, S, hh, ho, hng, hbs⟩ := hf h0
    exact ⟨cs, S, keep_block hb hh (lt_of_block hh), k.ownBelow ho hb, hng, hbs⟩

theorem MadeK.new {k : Kn α} {T : TypeId} {Z : Array Value} {s t base : Nat} {y : α} {listed : Array Bool} {x : Nat → Value} {u : World} (h : MadeK k T Z s t base y listed x u) (hst : s ≠ t) (hs : listed.getD s false = false) (hb : base ≤ u.heap.size) :
    MadeK k T Z s t base y (listed.setIfInBounds s true) (upd x s (.pointer (some ⟨u.heap.size, 0, none⟩))) (u.alloc (.cells Z T)) := by
  have ht : listed.getD t false = false := by
    cases e : listed.getD t false with
    | false => rfl
    | true => have := h.1 e; rw [hs] at this; cases this
  refine ⟨fun h1 => ?_, fun _ => ⟨u.heap.size, by rw [upd_same], hb, fun _ => heap_alloc_new _ _, fun h1 => ?_⟩⟩
  · rw [getD_set_ne false hst, ht] at h1; cases h1
  · rw [getD_set_ne false hst, ht] at h1; cases h1

theorem MadeK.there {k : Kn α} {T : TypeId} {Z : Array Value} {s t base : Nat} {y : α} {listed : Array Bool} {x : Nat → Value} {u : World} (h : MadeK k T Z s t base y listed x u) (hs : listed.getD s false = true) (ht : listed.getD t false = false) :
    ∃ g, x s = .pointer (some ⟨g, 0, none⟩) ∧ base ≤ g ∧ u.heap[g]? = some (.cells Z T (0, 0)) := by
  obtain ⟨g, e, hg, hz, _⟩ := h.2 hs
  exact ⟨g, e, hg, hz ht⟩

theorem MadeK.fill {k : Kn α} {T : TypeId} {Z : Array Value} {s t base : Nat} {y : α} {listed : Array Bool} {x : Nat → Value} {u' : World} {g : Nat} {cs : List Value} {S : List Nat} {v : Value} (hst : s ≠ t) (hs : listed.getD s false = true) (ht : t < listed.size) (hx : x s = .pointer (some ⟨g, 0, none⟩)) (hg : base ≤ g)
    (hh : u'.heap[g]? = some (.cells cs.toArray T (0, 0))) (ho : k.own u' S cs y) (hng : g ∉ S) (hb : ∀ b ∈ S, base ≤ b) : MadeK k T Z s t base y (listed.setIfInBounds t true) (upd x t v) u' := by
  refine ⟨fun _ => getD_set_true hs, fun _ => ⟨g, by rw [upd_other _ _ hst]; exact hx, hg, fun h0 => ?_, fun _ => ⟨cs, S, hh, ho, hng, hb⟩⟩⟩
  rw [get_set_same false ht] at h0
  cases h0

theorem MadeK.full {k : Kn α} {T : TypeId} {Z : Array Value} {s t base : Nat} {y : α} {listed : Array Bool} {x : Nat → Value} {u : World} (h : MadeK k T Z s t base y listed x u) (hs : listed.getD s false = true) (ht : listed.getD t false = true) :
    ∃ g cs S, x s = .pointer (some ⟨g, 0, none⟩) ∧ base ≤ g ∧ u.heap[g]? = some (.cells cs.toArray T (0, 0)) ∧ k.own u S cs y ∧ g ∉ S ∧ ∀ b ∈ S, base ≤ b := by
  obtain ⟨g, e, hg, _, hf⟩ := h.2 hs
  obtain ⟨cs, S, hh, ho, hng, hb⟩ := hf ht
  exact ⟨g, cs, S, e, hg, hh, ho, hng, hb⟩

end Go.Proofs.YtfpfgaifhmgpiaaDoor

namespace Go.Proofs.YtfpfgaifhmgpiaaDoor
open Go.RowKit Go.PlainAid

set_option linter.unusedVariables false

/-- A cell: its symbols, and whether it is poisoned. -/
def cellK : Kn (List Int × Bool) := intsK.pair boolK

def cellsK : Kn (List (List Int × Bool)) := cellK.row 41

/-- An array: cells, ages, hits. -/
def arrK : Kn (List (List Int × Bool) × List Int × List Int) := cellsK.pair (intsK.pair intsK)

theorem cell_rd {w : World} {cs : List Value} {x : List Int × Bool} (h : cellK.rd w cs x) : ∃ a n c, cs = [.slice a n c, .bool x.2] ∧ intsK.rd w [.slice a n c] x.1 := by
  obtain ⟨c1, c2, rfl, h1, h2⟩ := h
  obtain ⟨a, n, c, rfl, _⟩ := intsK_shape h1
  obtain rfl : c2 = [.bool x.2] := h2
  exact ⟨a, n, c, rfl, h1⟩

theorem cell_own {w : World} {S : List Nat} {cs : List Value} {x : List Int × Bool} (h : cellK.own w S cs x) : ∃ a n c, cs = [.slice a n c, .bool x.2] ∧ intsK.own w S [.slice a n c] x.1 := by
  obtain ⟨S1, S2, c1, c2, rfl, rfl, h1, h2, _⟩ := h
  obtain ⟨a, n, c, rfl, _⟩ := intsK_shape (intsK.read h1)
  obtain ⟨rfl, rfl⟩ : S2 = [] ∧ c2 = [.bool x.2] := h2
  exact ⟨a, n, c, rfl, by rw [List.append_nil]; exact h1⟩

theorem cell_of {w : World} {S : List Nat} {a : Option Addr} {n c : Nat} {s : List Int} (p : Bool) (h : intsK.own w S [.slice a n c] s) : cellK.own w S [.slice a n c, .bool p] (s, p) :=
  ⟨S, [], [.slice a n c], [.bool p], by simp, rfl, h, ⟨rfl, rfl⟩, by simpa using intsK.nodup h⟩

def cCnt (x : List Int × Bool) : Nat := x.1.length + 1

def cMk (x : List Int × Bool) (k : Nat) : List Int × Bool := (marksI k x.1.length, decide (((k + x.1.length : Nat) : Int).tmod 3 = 0))

theorem eqCell_k {a b : Option Addr} {n ca m cb : Nat} {s : List Int} {p : Bool} {w : World} (ha : intsK.rd w [.slice a n ca] s) (hb : intsK.rd w [.slice b m cb] s) :
    Calls Tryd.prog 93 #[.agg #[.slice a n ca, .bool p], .agg #[.slice b m cb, .bool p]] w (Gives (.bool true) w) := by
  obtain ⟨w1, hw1⟩ : ∃ u, (w.alloc (.cells #[.slice a n ca, .bool p] 41)).alloc (.cells #[.slice b m cb, .bool p] 41) = u := ⟨_, rfl⟩
  have HB1 : Hid (Below w.heap.size w w1) := by subst hw1; exact ((Below.refl _ _).alloc (Nat.le_refl _) _).alloc (by simp) _
  have g1 : w1.heap[w.heap.size]? = some (.cells #[.slice a n ca, .bool p] 41) := by subst hw1; exact heap_alloc2_old _ _ _
  have p1 : w1.heap[w.heap.size + 1]? = some (.cells #[.slice b m cb, .bool p] 41) := by subst hw1; exact heap_alloc2_new _ _ _
  have HA := Lib.hid (intsK.below ha HB1.out)
  have HC := Lib.hid (intsK.below hb HB1.out)
  obtain ⟨c0, c1⟩ := cells2 g1
  obtain ⟨d0, d1⟩ := cells2 p1
  have tpp : (p != p) = false := by simp
  clear ha hb
  go_enter Tryd.func93, Tryd.ntmps93
  go_wp2_with fail
  refine (eqIntS_k HA.out HC.out).mono ?_
  rintro e w2 ⟨rfl, hb2⟩
  have HB2 : Hid (Below w.heap.size w w2) := HB1.out.trans (hb2.mono HB1.out.size)
  have g2 := keep_block hb2 g1 (lt_of_block g1)
  have p2 := keep_block hb2 p1 (lt_of_block p1)
  clear hb2 c0 c1 d0 d1 g1 p1 hw1
  obtain ⟨c0, c1⟩ := cells2 g2
  obtain ⟨d0, d1⟩ := cells2 p2
  go_wp2_with fail
  go_ret
  exact ⟨rfl, HB2.out⟩

set_option maxHeartbeats 2000000 in
theorem eqCellS_k {a b : Option Addr} {n ca m cb : Nat} {l : List (List Int × Bool)} {w : World} (ha : cellsK.rd w [.slice a n ca] l) (hb : cellsK.rd w [.slice b m cb] l) :
    Calls Tryd.prog 55 #[.slice a n ca, .slice b m cb] w (Gives (.bool true) w) := by
  obtain ⟨h1, h2, h3, _⟩ := Kn.row_len ha
  obtain ⟨k1, _⟩ := Kn.row_len hb
  obtain rfl : n = m := by omega
  unfold maxLen at h3
  have HN := Lib.hid h1
  have HA := Lib.hid ha
  have HB := Lib.hid hb
  clear h1 h2 k1 ha hb
  go_enter Tryd.func55, Tryd.ntmps55
  go_wp2_with fail
  go_loopw [5] (fun i wr => ∃ k : Nat, k ≤ n ∧ i = .int .i64 k ∧ Below w.heap.size w wr) (fun i _ => n - (intOf i).toNat)
  case atStart => exact ⟨0, Nat.zero_le _, rfl, Below.refl _ _⟩
  case round =>
    obtain ⟨k, hk, rfl, hbr⟩ := hrel
    have HBR := Lib.hid hbr
    clear hbr
    by_cases hlt : k < n
    · have hkl : k < l.length := by rw [HN.out]; exact hlt
      obtain ⟨ga, oa, da, rfl, ea, ra⟩ := Kn.row_at (cellsK.below HA.out HBR.out) hkl
      obtain ⟨gb, ob, db, rfl, eb, rb⟩ := Kn.row_at (cellsK.below HB.out HBR.out) hkl
      obtain ⟨xa, na, pa, rfl, qa⟩ := cell_rd ra
      obtain ⟨xb, nb, pb, rfl, qb⟩ := cell_rd rb
      clear ra rb
      have a0 : wr.cell? ⟨ga, oa + k * 2, none⟩ = some (.slice xa na pa) := ea 0 (by decide)
      have a1 : wr.cell? ⟨ga, oa + k * 2 + 1, none⟩ = some (.bool l[k].2) := ea 1 (by decide)
      have b0 : wr.cell? ⟨gb, ob + k * 2, none⟩ = some (.slice xb nb pb) := eb 0 (by decide)
      have b1 : wr.cell? ⟨gb, ob + k * 2 + 1, none⟩ = some (.bool l[k].2) := eb 1 (by decide)
      generalize l[k] = x at qa qb a1 b1
      obtain ⟨s, p⟩ := x
      have za0 := fun q : Later wr => q.cell a0
      have za1 := fun q : Later wr => q.cell a1
      have zb0 := fun q : Later wr => q.cell b0
      have zb1 := fun q : Later wr => q.cell b1
      have zra := fun q : Later wr => intsK.below qa q.ok
      have zrb := fun q : Later wr => intsK.below qb q.ok
      clear ea eb a0 a1 b0 b1 qa qb
      go_wp2_with fail
      refine wp_region_later (by kernel_rfl) (by kernel_rfl) ?_
      repeat (go_big_quiet_step ((go_at_call 93; exact Gives.later _ (eqCell_k (zra _) (zrb _)))))
      refine wpQuiet_nil ?_
      rintro w2 ⟨zz, hz⟩
      have HB2 : Hid (Below w.heap.size w w2) := HBR.out.trans ((hz ▸ zz.ok : Below wr.heap.size wr w2).mono HBR.out.size)
      clear za0 za1 zb0 zb1 zra zrb hz zz
      go_wp2
      go_roundw
      case rel => exact ⟨k + 1, by omega, by go_num, HB2.out⟩
      case measure => simp [intOf]; omega
    · go_wp2_with fail
      go_ret
      exact ⟨rfl, HBR.out⟩

set_option maxHeartbeats 2000000 in
theorem markCellS_k {a : Option Addr} {n c : Nat} {l : List (List Int × Bool)} {S : List Nat} {w : World} (h : cellsK.own w S [.slice a n c] l) (k0 : Nat) (hk : k0 + cntL cCnt l ≤ 1000000000) :
    Calls Tryd.prog 57 #[.slice a n c, .int .i64 k0] w fun e w' => e = .returned (.int .i64 ((k0 + cntL cCnt l : Nat) : Int)) ∧ cellsK.own w' S [.slice a n c] (mkL cMk cCnt k0 l) ∧ OnlyS S w w' := by
  obtain ⟨h1, h2, h3, _⟩ := Kn.row_len (cellsK.read h)
  unfold maxLen at h3
  have HN := Lib.hid h1
  have HO := Lib.hid h
  clear h1 h
  go_enter Tryd.func57, Tryd.ntmps57
  go_wp2_with fail
  go_loopw [1, 5] (fun q i wr => ∃ m : Nat, m ≤ n ∧ i = .int .i64 m ∧ q = .int .i64 ((k0 + cntL cCnt (l.take m) : Nat) : Int) ∧ cellsK.own wr S [.slice a n c] (mkP cMk cCnt k0 l m) ∧ OnlyS S w wr) (fun _ i _ => n - (intOf i).toNat)
  case atStart => exact ⟨0, Nat.zero_le _, rfl, by simp [cntL], by rw [mkP_zero]; exact HO.out, OnlyS.refl _ _⟩
  case round =>
    obtain ⟨m, hm, rfl, rfl, hown, hok⟩ := hrel
    have HOK := Lib.hid hok
    clear hok
    by_cases hlt : m < n
    · have hml : m < l.length := by rw [HN.out]; exact hlt
      have hpl := mkP_length cMk cCnt k0 l m (by omega)
      have hmp : m < (mkP cMk cCnt k0 l m).length := by rw [hpl]; exact hml
      have hat := mkP_at cMk cCnt k0 l m hml hmp
      have hset := mkP_set cMk cCnt k0 l m hml
      have hct := cntL_take cCnt l m hml
      have hle := cntL_take_le cCnt l (m + 1)
      generalize mkP cMk cCnt k0 l m = cur at hown hpl hmp hat hset
      obtain ⟨g, off, cs, S1, rfl, hgS, hS1, hcell, hfr, hel, hin, hce, _⟩ := Kn.own_at hown hmp
      rw [hat] at hel
      generalize l[m] = x at hel hset hct
      obtain ⟨s, p⟩ := x
      obtain ⟨xa, xn, xc, rfl, hs⟩ := cell_own hel
      have a0 : wr.cell? ⟨g, off + m * 2, none⟩ = some (.slice xa xn xc) := hcell 0 (by decide)
      obtain ⟨kk, hkk⟩ : ∃ kk, k0 + cntL cCnt (l.take m) = kk := ⟨_, rfl⟩
      rw [hkk] at hset ⊢
      have hct2 : cntL cCnt (l.take (m + 1)) = cntL cCnt (l.take m) + (s.length + 1) := hct
      have hks : kk + s.length + 1 ≤ 1000000000 := by omega
      have HS := Lib.hid hs
      have HIN := Lib.hid hin
      have HS1 := Lib.hid hS1
      have HGS := Lib.hid hgS
      have HSET := Lib.hid hset
      have HK1 : Hid (k0 + cntL cCnt (l.take (m + 1)) = kk + s.length + 1) := by show _ = _; omega
      have HPL := Lib.hid hpl
      clear hcell hel hin hS1 hgS hset hct hct2 hat hce hs hkk hle
      go_wp2_with fail
      refine (markIntS_k HS.out kk (by omega)).mono ?_
      rintro e w2 ⟨rfl, own2, ho2⟩
      have R2 := HIN.out w2 (marksI kk s.length, p) ho2 (cell_of p own2)
      have HOK2 : Hid (OnlyS S w w2) := HOK.out.trans (ho2.mono (fun b hb => (HS1.out b hb).1))
      have hm2 : m < (cur.set m (marksI kk s.length, p)).length := by rw [List.length_set, HPL.out]; exact hml
      obtain ⟨g', off', cs', S1', e', hgS', _, hcell', hfr', hel', _, hce', _⟩ := Kn.own_at R2 hm2
      cases e'
      rw [List.getElem_set_self] at hel'
      obtain ⟨ya, yn, yc, rfl, hs'⟩ := cell_own hel'
      have b1 : w2.cell? ⟨g, off + m * 2 + 1, none⟩ = some (.bool p) := hcell' 1 (by decide)
      have b2 : w2.frozen? ⟨g, off + m * 2 + 1, none⟩ = false := hfr' _
      obtain ⟨K, hK⟩ : ∃ K, kk + s.length = K := ⟨_, rfl⟩
      obtain ⟨r, hr⟩ : ∃ r, K % 3 = r := ⟨_, rfl⟩
      have er : (K : Int).tmod 3 = (r : Int) := by rw [Int.tmod_eq_emod_of_nonneg (by omega)]; omega
      obtain ⟨b, t1, t2⟩ : ∃ b : Bool, ((r : Int) == 0) = b ∧ (r == 0) = b := ⟨(r == 0), by cases r <;> rfl, rfl⟩
      have HMK : Hid (cMk (s, p) kk = (marksI kk s.length, b)) := by
        show (marksI kk s.length, decide (((kk + s.length : Nat) : Int).tmod 3 = 0)) = _
        rw [hK, er, ← t1]
        congr 1
      have R3 := hce' 1 (.bool b) (marksI kk s.length, b) (by decide) (cell_of b hs')
      rw [List.set_set] at R3
      have R4 : Hid (cellsK.own (w2.setCell ⟨g, off + m * 2 + 1, none⟩ (.bool b)) S [.slice (some ⟨g, off, none⟩) n c] (mkP cMk cCnt k0 l (m + 1))) := by
        show cellsK.own _ _ _ _
        rw [← HSET.out, HMK.out]
        exact R3
      have HOK3 : Hid (OnlyS S w (w2.setCell ⟨g, off + m * 2 + 1, none⟩ (.bool b))) := HOK2.out.setCell (p := ⟨g, off + m * 2 + 1, none⟩) hgS' _
      have HK2 : Hid (k0 + cntL cCnt (l.take (m + 1)) = K + 1) := by show _ = _; rw [HK1.out, hK]
      have wr3 : IntKind.i64.wrap (r : Int) = (r : Int) := IntWalk.i64_in _ (by omega)
      have wK : IntKind.i64.wrap ((K : Int) + 1) = (K : Int) + 1 := IntWalk.i64_in _ (by omega)
      rw [hK]
      clear own2 ho2 R2 R3 hce' hs' hel' hcell' hfr' hgS' HMK hK hr
      go_wp2_with fail
      generalize w2.setCell ⟨g, off + m * 2 + 1, none⟩ (.bool b) = w3 at R4 HOK3 ⊢
      go_roundw
      case rel => exact ⟨m + 1, by omega, by go_num, by rw [HK2.out]; go_num, R4.out, HOK3.out⟩
      case measure => simp [intOf]; omega
    · obtain rfl : m = n := by omega
      have hfin : mkP cMk cCnt k0 l m = mkL cMk cCnt k0 l := by rw [← HN.out]; exact mkP_all _ _ _ _
      have htk : l.take m = l := List.take_of_length_le (by rw [HN.out]; exact Nat.le_refl _)
      rw [hfin] at hown
      rw [htk]
      have HF := Lib.hid hown
      clear hfin htk hown
      go_wp2_with fail
      go_ret
      exact ⟨rfl, HF.out, HOK.out⟩

end Go.Proofs.YtfpfgaifhmgpiaaDoor

namespace Go.Proofs.YtfpfgaifhmgpiaaDoor
open Go.RowKit Go.PlainAid

set_option linter.unusedVariables false

set_option maxHeartbeats 2000000 in
theorem heldCellS_k {a : Option Addr} {n c : Nat} {l : List (List Int × Bool)} {w : World} (k0 : Nat) (h : cellsK.rd w [.slice a n c] (mkL cMk cCnt k0 l)) (hk : k0 + cntL cCnt l ≤ 1000000000) :
    Calls Tryd.prog 59 #[.slice a n c, .int .i64 k0] w (Gives (.int .i64 ((k0 + cntL cCnt l : Nat) : Int)) w) := by
  obtain ⟨h1, h2, h3, _⟩ := Kn.row_len h
  rw [mkL_length] at h1
  unfold maxLen at h3
  have HN := Lib.hid h1
  have HO := Lib.hid h
  clear h1 h
  go_enter Tryd.func59, Tryd.ntmps59
  go_wp2_with fail
  go_loopw [1, 5] (fun q i wr => ∃ m : Nat, m ≤ n ∧ i = .int .i64 m ∧ q = .int .i64 ((k0 + cntL cCnt (l.take m) : Nat) : Int) ∧ Below w.heap.size w wr) (fun _ i _ => n - (intOf i).toNat)
  case atStart => exact ⟨0, Nat.zero_le _, rfl, by simp [cntL], Below.refl _ _⟩
  case round =>
    obtain ⟨m, hm, rfl, rfl, hbr⟩ := hrel
    have HBR := Lib.hid hbr
    clear hbr
    by_cases hlt : m < n
    · have hml : m < l.length := by rw [HN.out]; exact hlt
      have hmp : m < (mkL cMk cCnt k0 l).length := by rw [mkL_length]; exact hml
      have hat := mkL_get cMk cCnt l k0 m hml hmp
      have hct := cntL_take cCnt l m hml
      have hle := cntL_take_le cCnt l (m + 1)
      obtain ⟨g, off, cs, rfl, hcell, hel⟩ := Kn.row_at (cellsK.below HO.out HBR.out) hmp
      rw [hat] at hel
      generalize l[m] = x at hel hct
      obtain ⟨s, p⟩ := x
      obtain ⟨kk, hkk⟩ : ∃ kk, k0 + cntL cCnt (l.take m) = kk := ⟨_, rfl⟩
      rw [hkk] at hel ⊢
      obtain ⟨xa, xn, xc, rfl, hs⟩ := cell_rd hel
      have a0 : wr.cell? ⟨g, off + m * 2, none⟩ = some (.slice xa xn xc) := hcell 0 (by decide)
      have a1 : wr.cell? ⟨g, off + m * 2 + 1, none⟩ = some (.bool (cMk (s, p) kk).2) := hcell 1 (by decide)
      have hct2 : cntL cCnt (l.take (m + 1)) = cntL cCnt (l.take m) + (s.length + 1) := hct
      have hks : kk + s.length + 1 ≤ 1000000000 := by omega
      have HS : Hid (intsK.rd wr [.slice xa xn xc] (marksI kk s.length)) := hs
      have HK1 : Hid (k0 + cntL cCnt (l.take (m + 1)) = kk + s.length + 1) := by show _ = _; omega
      obtain ⟨K, hK⟩ : ∃ K, kk + s.length = K := ⟨_, rfl⟩
      obtain ⟨r, hr⟩ : ∃ r, K % 3 = r := ⟨_, rfl⟩
      have er : (K : Int).tmod 3 = (r : Int) := by rw [Int.tmod_eq_emod_of_nonneg (by omega)]; omega
      obtain ⟨b, t1, t2⟩ : ∃ b : Bool, ((r : Int) == 0) = b ∧ (r == 0) = b := ⟨(r == 0), by cases r <;> rfl, rfl⟩
      have hb : (cMk (s, p) kk).2 = b := by
        show decide (((kk + s.length : Nat) : Int).tmod 3 = 0) = _
        rw [hK, er, ← t1]
        congr 1
      rw [hb] at a1
      have tbb : (b != b) = false := by simp
      have HK2 : Hid (k0 + cntL cCnt (l.take (m + 1)) = K + 1) := by show _ = _; rw [HK1.out, hK]
      have wr3 : IntKind.i64.wrap (r : Int) = (r : Int) := IntWalk.i64_in _ (by omega)
      have wK : IntKind.i64.wrap ((K : Int) + 1) = (K : Int) + 1 := IntWalk.i64_in _ (by omega)
      have tK : decide ((K : Int) < 0) = false := decide_eq_false (by omega)
      have HKK := Lib.hid hK
      clear hcell hel hat hct hct2 hs hkk hle hb hK hr
      go_wp2_with fail
      refine (heldIntS_k kk HS.out (by omega)).mono ?_
      rintro e w2 ⟨rfl, hb2⟩
      have b1 : w2.cell? ⟨g, off + m * 2 + 1, none⟩ = some (.bool b) := (hb2.cell (World.block_lt_of_cell? _ _ a1)).trans a1
      have HB2 : Hid (Below w.heap.size w w2) := HBR.out.trans (hb2.mono HBR.out.size)
      rw [HKK.out]
      clear hb2 a0 a1
      go_wp2_with fail
      go_roundw
      case rel => exact ⟨m + 1, by omega, by go_num, by rw [HK2.out]; go_num, HB2.out⟩
      case measure => simp [intOf]; omega
    · obtain rfl : m = n := by omega
      have htk : l.take m = l := List.take_of_length_le (by rw [HN.out]; exact Nat.le_refl _)
      rw [htk]
      clear htk
      go_wp2_with fail
      go_ret
      exact ⟨rfl, HBR.out⟩

/-- The ints in rows of cells. -/
def symN (x : List Int × Bool) : Nat := x.1.length

theorem szCell_k (a : Option Addr) (n c : Nat) (p : Bool) (k v : Int) (hn : n ≤ maxLen) (h0 : 0 ≤ k) (hk : k ≤ 1048576) (hv : szF k n = v) (w : World) :
    Calls Tryd.prog 94 #[.agg #[.slice a n c, .bool p], .int .i64 k] w (Gives (.int .i64 v) w) := by
  obtain ⟨w1, hw1⟩ : ∃ u, w.alloc (.cells #[.slice a n c, .bool p] 120) = u := ⟨_, rfl⟩
  have HB1 : Hid (Below w.heap.size w w1) := by subst hw1; exact (Below.refl _ _).alloc (Nat.le_refl _) _
  have g1 : w1.heap[w.heap.size]? = some (.cells #[.slice a n c, .bool p] 120) := by subst hw1; exact heap_alloc_new _ _
  obtain ⟨c0, c1⟩ := cells2 g1
  have HV := Lib.hid hv
  have hv2 : v = -1 ∨ 0 ≤ v := by rw [← hv]; unfold szF; split <;> omega
  clear hv
  rcases hv2 with rfl | hv2
  · go_enter Tryd.func94, Tryd.ntmps94
    go_wp2_with fail
    refine (szIntS_k a n c k (-1) hn h0 hk HV.out _).mono ?_
    rintro e w2 ⟨rfl, hb2⟩
    have HB2 : Hid (Below w.heap.size w w2) := HB1.out.trans (hb2.mono HB1.out.size)
    clear hb2
    go_wp2_with fail
    go_ret
    exact ⟨rfl, HB2.out⟩
  · have tv : decide (v < 0) = false := decide_eq_false (by omega)
    go_enter Tryd.func94, Tryd.ntmps94
    go_wp2_with fail
    refine (szIntS_k a n c k v hn h0 hk HV.out _).mono ?_
    rintro e w2 ⟨rfl, hb2⟩
    have HB2 : Hid (Below w.heap.size w w2) := HB1.out.trans (hb2.mono HB1.out.size)
    clear hb2
    go_wp2_with fail
    go_ret
    exact ⟨rfl, HB2.out⟩

set_option maxHeartbeats 2000000 in
theorem szCellS_k {a : Option Addr} {n c : Nat} {l : List (List Int × Bool)} {w : World} (h : cellsK.rd w [.slice a n c] l) (k v : Int) (h0 : 0 ≤ k) (hk : k ≤ 1048576) (hv : szF k (l.length + cntL symN l) = v) :
    Calls Tryd.prog 61 #[.slice a n c, .int .i64 k] w (Gives (.int .i64 v) w) := by
  obtain ⟨h1, h2, h3, _⟩ := Kn.row_len h
  unfold maxLen at h3
  have HN := Lib.hid h1
  have HO := Lib.hid h
  have HV := Lib.hid hv
  clear h1 h hv
  have e1 : IntKind.i64.wrap (k - (n : Int)) = k - (n : Int) := IntWalk.i64_in _ ⟨by omega, by omega⟩
  by_cases hneg : k - (n : Int) < 0
  · have HE : Hid (-1 = v) := by
      show _ = _
      rw [← HV.out]
      unfold szF
      rw [if_pos (by have := HN.out; omega)]
    go_enter Tryd.func61, Tryd.ntmps61
    go_wp2_with fail
    go_ret
    exact ⟨ret_i HE.out, Below.refl _ _⟩
  have hge : 0 ≤ k - (n : Int) := by omega
  obtain ⟨k1, hk1⟩ : ∃ k1, k - (n : Int) = k1 := ⟨_, rfl⟩
  have HK1 := Lib.hid hk1
  have hk1b : 0 ≤ k1 ∧ k1 ≤ 1048576 := by omega
  have tn : decide (k1 < 0) = false := decide_eq_false (by omega)
  rw [hk1] at e1
  have hneg' : ¬ k1 < 0 := by omega
  have e0 : k - (n : Int) = k1 := hk1
  go_enter Tryd.func61, Tryd.ntmps61
  go_wp2_with fail
  go_loopw [1, 5] (fun q i wr => ∃ m : Nat, m ≤ n ∧ i = .int .i64 m ∧ q = .int .i64 (k1 - (cntL symN (l.take m) : Int)) ∧ 0 ≤ k1 - (cntL symN (l.take m) : Int) ∧ Below w.heap.size w wr) (fun _ i _ => n - (intOf i).toNat)
  case atStart => exact ⟨0, Nat.zero_le _, rfl, by simp [cntL], by simp [cntL]; omega, Below.refl _ _⟩
  case round =>
    obtain ⟨m, hm, rfl, rfl, hq, hbr⟩ := hrel
    have HBR := Lib.hid hbr
    clear hbr
    by_cases hlt : m < n
    · have hml : m < l.length := by rw [HN.out]; exact hlt
      have hct := cntL_take symN l m hml
      have hle := cntL_take_le symN l (m + 1)
      obtain ⟨g, off, cs, rfl, hcell, hel⟩ := Kn.row_at (cellsK.below HO.out HBR.out) hml
      generalize l[m] = x at hel hct hcell
      obtain ⟨s, p⟩ := x
      obtain ⟨xa, xn, xc, rfl, hs⟩ := cell_rd hel
      obtain ⟨hsl, _, hsm, _⟩ := Kn.row_len hs
      have a0 : wr.cell? ⟨g, off + m * 2, none⟩ = some (.slice xa xn xc) := hcell 0 (by decide)
      have a1 : wr.cell? ⟨g, off + m * 2 + 1, none⟩ = some (.bool p) := hcell 1 (by decide)
      have hct2 : cntL symN (l.take (m + 1)) = cntL symN (l.take m) + xn := by rw [hct]; show _ + s.length = _; rw [hsl]
      obtain ⟨kk, hkk⟩ : ∃ kk, k1 - (cntL symN (l.take m) : Int) = kk := ⟨_, rfl⟩
      rw [hkk] at hq ⊢
      obtain ⟨v2, hv2⟩ : ∃ v2, szF kk xn = v2 := ⟨_, rfl⟩
      have HV2 := Lib.hid hv2
      have hkb : kk ≤ 1048576 := by omega
      have wm : IntKind.i64.wrap ((m : Int) + 1) = (m : Int) + 1 := IntWalk.i64_in _ (by omega)
      by_cases hn2 : v2 < 0
      · have HE : Hid (-1 = v) := by
          show _ = _
          rw [← HV.out]
          have : kk - (xn : Int) < 0 := by
            rw [← hv2] at hn2
            unfold szF at hn2
            split at hn2 <;> omega
          unfold szF
          rw [if_pos (by have := HN.out; omega)]
        have t2 : decide (v2 < 0) = true := decide_eq_true hn2
        clear hcell hel hct hct2 hs hkk hle hv2 hn2
        go_wp2_with fail
        refine (szCell_k xa xn xc p kk v2 hsm hq hkb HV2.out _).mono ?_
        rintro e w2 ⟨rfl, hb2⟩
        have HB2 : Hid (Below w.heap.size w w2) := HBR.out.trans (hb2.mono HBR.out.size)
        clear hb2
        go_wp2_with fail
        go_ret
        exact ⟨ret_i HE.out, HB2.out⟩
      · have t2 : decide (v2 < 0) = false := decide_eq_false hn2
        have hv3 : v2 = kk - (xn : Int) ∧ 0 ≤ kk - (xn : Int) := by
          rw [← hv2] at hn2 ⊢
          unfold szF at hn2 ⊢
          split at hn2 <;> rename_i h
          · omega
          · rw [if_neg h]; exact ⟨rfl, by omega⟩
        have HN3 : Hid (v2 = k1 - (cntL symN (l.take (m + 1)) : Int) ∧ 0 ≤ k1 - (cntL symN (l.take (m + 1)) : Int)) := by
          refine ⟨?_, ?_⟩ <;> omega
        clear hcell hel hct hct2 hs hkk hle hv2 hn2 hv3
        go_wp2_with fail
        refine (szCell_k xa xn xc p kk v2 hsm hq hkb HV2.out _).mono ?_
        rintro e w2 ⟨rfl, hb2⟩
        have HB2 : Hid (Below w.heap.size w w2) := HBR.out.trans (hb2.mono HBR.out.size)
        clear hb2
        go_wp2_with fail
        go_roundw
        case rel => exact ⟨m + 1, by omega, by go_num, by rw [HN3.out.1], HN3.out.2, HB2.out⟩
        case measure => simp [intOf]; omega
    · obtain rfl : m = n := by omega
      have htk : l.take m = l := List.take_of_length_le (by rw [HN.out]; exact Nat.le_refl _)
      rw [htk] at hq ⊢
      have HE : Hid (k1 - (cntL symN l : Int) = v) := by
        show _ = _
        rw [← HV.out]
        unfold szF
        have h1 := HN.out
        have h2 := HK1.out
        rw [if_neg (by omega)]
        omega
      clear htk
      go_wp2_with fail
      go_ret
      exact ⟨ret_i HE.out, HBR.out⟩

end Go.Proofs.YtfpfgaifhmgpiaaDoor

namespace Go.Proofs.YtfpfgaifhmgpiaaDoor
open Go.RowKit Go.PlainAid

set_option linter.unusedVariables false

/-- A call that answers a struct of the call's own. -/
def GivesS {α : Type} (k : Kn α) (x : α) (w : World) (e : Ending) (w' : World) : Prop := ∃ cs S, e = .returned (.agg cs.toArray) ∧ k.own w' S cs x ∧ (∀ b ∈ S, w.heap.size ≤ b) ∧ Below w.heap.size w w'

theorem Kn.ownSet {α : Type} (k : Kn α) {w : World} {S : List Nat} {cs : List Value} {x : α} (h : k.own w S cs x) {p : Addr} (hp : ∀ b ∈ S, b ≠ p.block) (v : Value) : k.own (w.setCell p v) S cs x :=
  k.same h (fun b hb => Below.heap_setCell _ _ _ _ (hp b hb))

theorem own_cells {w : World} {S : List Nat} {v : Value} {l : List Int} (h : intsK.own w S [v] l) : ∃ a n c, v = .slice a n c := by
  obtain ⟨a, n, c, e, _⟩ := intsK_shape (intsK.read h)
  simp only [List.cons.injEq, and_true] at e
  exact ⟨a, n, c, e⟩

set_option maxHeartbeats 2000000 in
theorem toCell_k {a : Option Addr} {n c : Nat} {s : List Int} {p : Bool} {w : World} (h : intsK.rd w [.slice a n c] s) (hl : s.length ≤ 4000000) :
    Calls Tryd.prog 98 #[.agg #[.slice a n c, .bool p]] w (GivesS cellK (s, p) w) := by
  obtain ⟨w1, hw1⟩ : ∃ u, ((w.alloc (.cells #[.slice a n c, .bool p] 120)).alloc (.cells #[.slice none 0 0, .bool false] 41)).alloc (.cells #[.slice none 0 0, .bool false] 41) = u := ⟨_, rfl⟩
  have HB1 : Hid (Below w.heap.size w w1) := by subst hw1; exact (((Below.refl _ _).alloc (Nat.le_refl _) _).alloc (by simp) _).alloc (by simp; omega) _
  have p1 : w1.heap[w.heap.size]? = some (.cells #[.slice a n c, .bool p] 120) := by subst hw1; exact box3_0 _ _ _ _
  have b1 : w1.heap[w.heap.size + 1]? = some (.cells #[.slice none 0 0, .bool false] 41) := by subst hw1; exact box3_1 _ _ _ _
  have o1 : w1.heap[w.heap.size + 1 + 1]? = some (.cells #[.slice none 0 0, .bool false] 41) := by subst hw1; exact box3_2 _ _ _ _
  have HS1 : Hid (w.heap.size + 1 + 1 < w1.heap.size) := lt_of_block o1
  have HR := Lib.hid (intsK.below h HB1.out)
  obtain ⟨d0, d1⟩ := cells2 p1
  clear h
  go_enter Tryd.func98, Tryd.ntmps98
  go_wp2_with fail
  refine (toIntS_k HR.out hl).mono ?_
  rintro e w2 ⟨v, S, rfl, own2, hS2, hb2⟩
  obtain ⟨xa, xn, xc, rfl⟩ := own_cells own2
  have p2 := keep_block hb2 p1 (lt_of_block p1)
  have b2 := keep_block hb2 b1 (lt_of_block b1)
  have o2 := keep_block hb2 o1 (lt_of_block o1)
  have HB2 : Hid (Below w.heap.size w w2) := HB1.out.trans (hb2.mono HB1.out.size)
  obtain ⟨e0, e1⟩ := cells2 o2
  obtain ⟨d0, d1⟩ := cells2 p2
  have f0 := thawed o2 0
  have f1 := thawed o2 1
  have HO2 := Lib.hid own2
  have HSS := Lib.hid hS2
  have o3 := set_cells (set_cells o2 0 (.slice xa xn xc)) 1 (.bool p)
  have b3 := (Below.heap_setCell _ ⟨w.heap.size + 1 + 1, 1, none⟩ (.bool p) (w.heap.size + 1) (by simp)).trans ((Below.heap_setCell w2 ⟨w.heap.size + 1 + 1, 0, none⟩ (.slice xa xn xc) (w.heap.size + 1) (by simp)).trans b2)
  have p3 := (Below.heap_setCell w2 ⟨w.heap.size + 1 + 1, 0, none⟩ (.slice xa xn xc) w.heap.size (by simp; omega)).trans p2
  obtain ⟨m0, m1⟩ := cells2 p3
  have HB3 : Hid (Below w.heap.size w ((w2.setCell ⟨w.heap.size + 1 + 1, 0, none⟩ (.slice xa xn xc)).setCell ⟨w.heap.size + 1 + 1, 1, none⟩ (.bool p))) := (HB2.out.setCell (by simp; omega) _).setCell (by simp; omega) _
  have HO3 : Hid (intsK.own ((w2.setCell ⟨w.heap.size + 1 + 1, 0, none⟩ (.slice xa xn xc)).setCell ⟨w.heap.size + 1 + 1, 1, none⟩ (.bool p)) S [.slice xa xn xc] s) := by
    have hs1 := HS1.out
    exact intsK.ownSet (intsK.ownSet HO2.out (fun b hb => by have := HSS.out b hb; simp; omega) _) (fun b hb => by have := HSS.out b hb; simp; omega) _
  obtain ⟨y0, y1⟩ := cells2 b3
  have g0 := thawed b3 0
  have g1 := thawed b3 1
  obtain ⟨x0, x1⟩ := cells2 o3
  clear hb2 own2 hS2 hw1 p1 b1 o1 HB1
  go_wp2_with fail
  (try simp only [Exit.inBlock, Exit.then])
  refine bodyPost_ret (v := .agg #[.slice xa xn xc, .bool p]) ?_ rfl ⟨[.slice xa xn xc, .bool p], S, rfl, cell_of p ?_, fun b hb => ?_, ?_⟩
  · simp [results, Tryd.results98, go_sem, y0, y1]
  · have hs1 := HS1.out
    exact intsK.ownSet (intsK.ownSet HO3.out (fun b hb => by have := HSS.out b hb; simp; omega) _) (fun b hb => by have := HSS.out b hb; simp; omega) _
  · have hs1 := HS1.out
    have := HSS.out b hb
    omega
  · exact (HB3.out.setCell (by simp) _).setCell (by simp) _

theorem infoCell : (Tryd.prog.info? 41).map (fun i => (i.zero, i.size, i.bytes)) = some (some (.agg #[.slice none 0 0, .bool false]), 2, 32) := by kernel_rfl

theorem ints_zero (w : World) : intsK.own w [] [.slice none 0 0] [] := ⟨none, 0, 0, [], [], rfl, rfl, ⟨Nat.le_refl _, Nat.zero_le _⟩, ⟨rfl, rfl⟩, List.nodup_nil, .inl ⟨rfl, fun _ => rfl, rfl⟩⟩

theorem cell_zero (w : World) : cellK.own w [] [.slice none 0 0, .bool false] ([], false) := cell_of false (ints_zero w)

set_option maxHeartbeats 4000000 in
set_option maxRecDepth 100000 in
theorem toCellS_k {a : Option Addr} {n c : Nat} {l : List (List Int × Bool)} {w : World} (h : cellsK.rd w [.slice a n c] l) (hl : l.length ≤ 3000000) (hs : ∀ x ∈ l, x.1.length ≤ 4000000) :
    Calls Tryd.prog 67 #[.slice a n c] w (GivesK cellsK l w) := by
  obtain ⟨h1, h2, h3, _⟩ := Kn.row_len h
  have hn : n ≤ 3000000 := by omega
  have HN := Lib.hid h1
  have HO := Lib.hid h
  have HS := Lib.hid hs
  clear h1 h hs h3 hl
  obtain ⟨i0, hi, hz0, hz1, hz2⟩ := info_parts infoCell
  go_enter Tryd.func67, Tryd.ntmps67
  go_wp2_with (at_make; refine wpList_make_full _ rfl _ _ 28 rfl w.heap.size 41 i0 (.agg #[.slice none 0 0, .bool false]) 2 Tryd.underlying28 hi hz0 hz1 _ _ _ _ n rfl rfl rfl rfl (by rw [hz2]; omega) (by unfold maxLen; omega) (Nat.le_refl _) ?_)
  intro w1 hown hgr
  have hb1 : Below w.heap.size w w1 := (Below.refl _ _).grown hgr (Nat.le_refl _) (fun k hk => by cases hk)
  obtain ⟨S1, own1, hS1⟩ := (Kn.Bld.made (k := cellK) (T := 41) (z := ([], false)) (zc := [.slice none 0 0, .bool false]) (cell_zero w1) (by decide) hown).own
  have HO1 := Lib.hid own1
  have HS1 := Lib.hid hS1
  have HB1 := Lib.hid hb1
  clear hgr hown hb1 own1 hS1
  go_wp2_with fail
  go_loopw [4] (fun i wr => ∃ m : Nat, m ≤ n ∧ i = .int .i64 m ∧ (∃ S, cellsK.own wr S [.slice (some ⟨w.heap.size, 0, none⟩) n n] (l.take m ++ List.replicate (n - m) ([], false)) ∧ ∀ b ∈ S, w.heap.size ≤ b) ∧ Below w.heap.size w wr) (fun i _ => n - (intOf i).toNat)
  case atStart => exact ⟨0, Nat.zero_le _, rfl, ⟨S1, by rw [List.take_zero, List.nil_append, Nat.sub_zero]; exact HO1.out, HS1.out⟩, HB1.out⟩
  case round =>
    obtain ⟨m, hm, rfl, ⟨S, hown, hSB⟩, hbr⟩ := hrel
    have HBR := Lib.hid hbr
    have HOW := Lib.hid hown
    have HSB := Lib.hid hSB
    clear hbr hown hSB HO1 HS1 HB1
    by_cases hlt : m < n
    · have hml : m < l.length := by rw [HN.out]; exact hlt
      have hlen : (l.take m ++ List.replicate (n - m) (([], false) : List Int × Bool)).length = n := by have := HN.out; simp; omega
      have HLEN := Lib.hid hlen
      have HST := Lib.hid (take_setG (([], false) : List Int × Bool) l n m HN.out hlt)
      have hget : l.getD m ([], false) = l[m] := by rw [List.getD_eq_getElem?_getD, List.getElem?_eq_getElem hml]; rfl
      have hsm := HS.out l[m] (List.getElem_mem _)
      obtain ⟨g, off, cs, rfl, hcell, hel⟩ := Kn.row_at (cellsK.below HO.out HBR.out) hml
      rw [hget] at HST
      generalize l[m] = x at hel hsm hcell HST
      obtain ⟨s, p⟩ := x
      obtain ⟨xa, xn, xc, rfl, hs⟩ := cell_rd hel
      have a0 : wr.cell? ⟨g, off + m * 2, none⟩ = some (.slice xa xn xc) := hcell 0 (by decide)
      have a1 : wr.cell? ⟨g, off + m * 2 + 1, none⟩ = some (.bool p) := hcell 1 (by decide)
      have HSS : Hid (intsK.rd wr [.slice xa xn xc] s) := hs
      clear hcell hel hget hs hlen
      go_wp2_with fail
      refine (toCell_k HSS.out hsm).mono ?_
      rintro e w3 ⟨d, S2, rfl, own3, hS3, hb3⟩
      obtain ⟨ya, yn, yc, rfl, hy⟩ := cell_own own3
      have hO3 : cellsK.own w3 S [.slice (some ⟨w.heap.size, 0, none⟩) n n] (l.take m ++ List.replicate (n - m) ([], false)) := cellsK.ownBelow HOW.out hb3
      have hm3 : m < (l.take m ++ List.replicate (n - m) (([], false) : List Int × Bool)).length := by rw [HLEN.out]; exact hlt
      obtain ⟨g', off', ds, S1', e', hgS, hS1', hdc, hdf, hel3, _, _, hput⟩ := Kn.own_at hO3 hm3
      cases e'
      rw [Nat.zero_add] at hput hdc
      obtain ⟨S'', hsub, hR⟩ := hput S2 _ (s, p) own3 (fun b hb hbS => by
        have h1 := hS3 b hb
        have h2 := cellsK.lt HOW.out b hbS
        omega)
      obtain ⟨za, zn, zc, rfl, _⟩ := cell_own hel3
      obtain ⟨u0, c0⟩ : ∃ u, w3.cell? ⟨w.heap.size, m * 2, none⟩ = some u := ⟨_, hdc 0 (by decide)⟩
      obtain ⟨u1, c1⟩ : ∃ u, w3.cell? ⟨w.heap.size, m * 2 + 1, none⟩ = some u := ⟨_, hdc 1 (by decide)⟩
      have f0 := hdf (m * 2)
      have f1 := hdf (m * 2 + 1)
      have HR : Hid (cellsK.own (putW w3 w.heap.size (m * 2) [.slice ya yn yc, .bool p]) S'' [.slice (some ⟨w.heap.size, 0, none⟩) n n] (l.take (m + 1) ++ List.replicate (n - (m + 1)) ([], false))) := by
        show cellsK.own _ _ _ _
        rw [← HST.out]
        exact hR
      have HS'' : Hid (∀ b ∈ S'', w.heap.size ≤ b) := fun b hb => by
        rcases hsub b hb with h | h
        · exact HSB.out b h
        · have := hS3 b h; have := HBR.out.size; omega
      have HB3 : Hid (Below w.heap.size w (putW w3 w.heap.size (m * 2) [.slice ya yn yc, .bool p])) := putW_below (Nat.le_refl _) _ _ _ _ (HBR.out.trans (hb3.mono HBR.out.size))
      clear hput hR hdc hdf hel3 hO3 own3 hy hS3 hb3 hsub hS1' hgS
      go_wp2_with fail
      go_roundw
      case rel => exact ⟨m + 1, by omega, by go_num, ⟨S'', HR.out, HS''.out⟩, HB3.out⟩
      case measure => simp [intOf]; omega
    · obtain rfl : m = n := by omega
      have htk : l.take m = l := List.take_of_length_le (by rw [HN.out]; exact Nat.le_refl _)
      have hO2 := HOW.out
      rw [Nat.sub_self, List.replicate_zero, List.append_nil, htk] at hO2
      have HF := Lib.hid hO2
      clear htk hO2
      go_wp2_with fail
      go_ret
      exact ⟨_, S, rfl, HF.out, HSB.out, HBR.out⟩

end Go.Proofs.YtfpfgaifhmgpiaaDoor

namespace Go.Proofs.YtfpfgaifhmgpiaaDoor
open Go.RowKit Go.PlainAid

set_option linter.unusedVariables false

theorem cells_shape {w : World} {cs : List Value} {l : List (List Int × Bool)} (h : cellsK.rd w cs l) : ∃ a n c, cs = [.slice a n c] := by
  obtain ⟨a, n, c, xs, e, _⟩ := h
  exact ⟨a, n, c, e⟩

theorem arr_rd {w : World} {cs : List Value} {x : List (List Int × Bool) × List Int × List Int} (h : arrK.rd w cs x) :
    ∃ a0 n0 c0 a1 n1 c1 a2 n2 c2, cs = [.slice a0 n0 c0, .slice a1 n1 c1, .slice a2 n2 c2] ∧ cellsK.rd w [.slice a0 n0 c0] x.1 ∧ intsK.rd w [.slice a1 n1 c1] x.2.1 ∧ intsK.rd w [.slice a2 n2 c2] x.2.2 := by
  obtain ⟨d0, d1, rfl, h0, d2, d3, rfl, h1, h2⟩ := h
  obtain ⟨a0, n0, c0, rfl⟩ := cells_shape h0
  obtain ⟨a1, n1, c1, rfl, _⟩ := intsK_shape h1
  obtain ⟨a2, n2, c2, rfl, _⟩ := intsK_shape h2
  exact ⟨a0, n0, c0, a1, n1, c1, a2, n2, c2, rfl, h0, h1, h2⟩

theorem arr_own {w : World} {S : List Nat} {cs : List Value} {x : List (List Int × Bool) × List Int × List Int} (h : arrK.own w S cs x) :
    ∃ a0 n0 c0 a1 n1 c1 a2 n2 c2 S0 S1 S2, cs = [.slice a0 n0 c0, .slice a1 n1 c1, .slice a2 n2 c2] ∧ S = S0 ++ (S1 ++ S2) ∧ S.Nodup ∧ cellsK.own w S0 [.slice a0 n0 c0] x.1 ∧ intsK.own w S1 [.slice a1 n1 c1] x.2.1 ∧ intsK.own w S2 [.slice a2 n2 c2] x.2.2 := by
  have hn := arrK.nodup h
  obtain ⟨S0, S', d0, d1, rfl, rfl, h0, ⟨S1, S2, d2, d3, rfl, rfl, h1, h2, _⟩, _⟩ := h
  obtain ⟨a0, n0, c0, rfl⟩ := cells_shape (cellsK.read h0)
  obtain ⟨a1, n1, c1, rfl, _⟩ := intsK_shape (intsK.read h1)
  obtain ⟨a2, n2, c2, rfl, _⟩ := intsK_shape (intsK.read h2)
  exact ⟨a0, n0, c0, a1, n1, c1, a2, n2, c2, S0, S1, S2, rfl, rfl, hn, h0, h1, h2⟩

theorem arr_of {w : World} {S0 S1 S2 : List Nat} {v0 v1 v2 : Value} {x : List (List Int × Bool)} {y z : List Int} (h0 : cellsK.own w S0 [v0] x) (h1 : intsK.own w S1 [v1] y) (h2 : intsK.own w S2 [v2] z) (hn : (S0 ++ (S1 ++ S2)).Nodup) :
    arrK.own w (S0 ++ (S1 ++ S2)) [v0, v1, v2] (x, y, z) :=
  ⟨S0, S1 ++ S2, [v0], [v1, v2], rfl, rfl, h0, ⟨S1, S2, [v1], [v2], rfl, rfl, h1, h2, (List.nodup_append.1 hn).2.1⟩, hn⟩

theorem nodup3 {A B C : List Nat} (h : (A ++ (B ++ C)).Nodup) : (∀ b ∈ A, b ∉ B ∧ b ∉ C) ∧ (∀ b ∈ B, b ∉ A ∧ b ∉ C) ∧ (∀ b ∈ C, b ∉ A ∧ b ∉ B) := by
  rw [List.nodup_append, List.nodup_append] at h
  obtain ⟨h1, ⟨h2, h3, h4⟩, h5⟩ := h
  have q1 : ∀ b ∈ A, b ∉ B := fun b hb hb' => h5 b hb b (List.mem_append_left _ hb') rfl
  have q2 : ∀ b ∈ A, b ∉ C := fun b hb hb' => h5 b hb b (List.mem_append_right _ hb') rfl
  have q3 : ∀ b ∈ B, b ∉ C := fun b hb hb' => h4 b hb b hb' rfl
  exact ⟨fun b hb => ⟨q1 b hb, q2 b hb⟩, fun b hb => ⟨fun h => q1 b h hb, q3 b hb⟩, fun b hb => ⟨fun h => q2 b h hb, fun h => q3 b h hb⟩⟩

theorem nodup_of {A B C : List Nat} (hA : A.Nodup) (hB : B.Nodup) (hC : C.Nodup) (h1 : ∀ b ∈ B, b ∉ A) (h2 : ∀ b ∈ C, b ∉ A) (h3 : ∀ b ∈ C, b ∉ B) : (A ++ (B ++ C)).Nodup := by
  rw [List.nodup_append, List.nodup_append]
  refine ⟨hA, ⟨hB, hC, fun a ha b hb e => h3 b hb (e ▸ ha)⟩, fun a ha b hb e => ?_⟩
  rcases List.mem_append.1 hb with h | h
  · exact h1 b h (e ▸ ha)
  · exact h2 b h (e ▸ ha)

set_option maxHeartbeats 2000000 in
theorem eqArray_k {a0 a1 a2 b0 b1 b2 : Option Addr} {n0 n1 n2 m0 m1 m2 c0 c1 c2 d0 d1 d2 : Nat} {x : List (List Int × Bool)} {y z : List Int} {w : World}
    (ha0 : cellsK.rd w [.slice a0 n0 c0] x) (ha1 : intsK.rd w [.slice a1 n1 c1] y) (ha2 : intsK.rd w [.slice a2 n2 c2] z) (hb0 : cellsK.rd w [.slice b0 m0 d0] x) (hb1 : intsK.rd w [.slice b1 m1 d1] y) (hb2 : intsK.rd w [.slice b2 m2 d2] z) :
    Calls Tryd.prog 24 #[.agg #[.slice a0 n0 c0, .slice a1 n1 c1, .slice a2 n2 c2], .agg #[.slice b0 m0 d0, .slice b1 m1 d1, .slice b2 m2 d2]] w (Gives (.bool true) w) := by
  obtain ⟨w1, hw1⟩ : ∃ u, (w.alloc (.cells #[.slice a0 n0 c0, .slice a1 n1 c1, .slice a2 n2 c2] 31)).alloc (.cells #[.slice b0 m0 d0, .slice b1 m1 d1, .slice b2 m2 d2] 31) = u := ⟨_, rfl⟩
  have HB1 : Hid (Below w.heap.size w w1) := by subst hw1; exact ((Below.refl _ _).alloc (Nat.le_refl _) _).alloc (by simp) _
  have g1 : w1.heap[w.heap.size]? = some (.cells #[.slice a0 n0 c0, .slice a1 n1 c1, .slice a2 n2 c2] 31) := by subst hw1; exact heap_alloc2_old _ _ _
  have p1 : w1.heap[w.heap.size + 1]? = some (.cells #[.slice b0 m0 d0, .slice b1 m1 d1, .slice b2 m2 d2] 31) := by subst hw1; exact heap_alloc2_new _ _ _
  have A0 := Lib.hid (cellsK.below ha0 HB1.out)
  have A1 := Lib.hid (intsK.below ha1 HB1.out)
  have A2 := Lib.hid (intsK.below ha2 HB1.out)
  have C0 := Lib.hid (cellsK.below hb0 HB1.out)
  have C1 := Lib.hid (intsK.below hb1 HB1.out)
  have C2 := Lib.hid (intsK.below hb2 HB1.out)
  obtain ⟨x0, x1, x2⟩ := cells3 g1
  obtain ⟨y0, y1, y2⟩ := cells3 p1
  clear ha0 ha1 ha2 hb0 hb1 hb2
  go_enter Tryd.func24, Tryd.ntmps24
  go_wp2_with fail
  refine (eqCellS_k A0.out C0.out).mono ?_
  rintro e w2 ⟨rfl, hb2⟩
  have HB2 : Hid (Below w.heap.size w w2) := HB1.out.trans (hb2.mono HB1.out.size)
  have g2 := keep_block hb2 g1 (lt_of_block g1)
  have p2 := keep_block hb2 p1 (lt_of_block p1)
  have A1' := Lib.hid (intsK.below A1.out hb2)
  have A2' := Lib.hid (intsK.below A2.out hb2)
  have C1' := Lib.hid (intsK.below C1.out hb2)
  have C2' := Lib.hid (intsK.below C2.out hb2)
  clear hb2 x0 x1 x2 y0 y1 y2 g1 p1 hw1 A0 A1 A2 C0 C1 C2
  obtain ⟨x0, x1, x2⟩ := cells3 g2
  obtain ⟨y0, y1, y2⟩ := cells3 p2
  go_wp2_with fail
  refine (eqIntS_k A1'.out C1'.out).mono ?_
  rintro e w3 ⟨rfl, hb3⟩
  have HB3 : Hid (Below w.heap.size w w3) := HB2.out.trans (hb3.mono HB2.out.size)
  have g3 := keep_block hb3 g2 (lt_of_block g2)
  have p3 := keep_block hb3 p2 (lt_of_block p2)
  have A2 := Lib.hid (intsK.below A2'.out hb3)
  have C2 := Lib.hid (intsK.below C2'.out hb3)
  clear hb3 x0 x1 x2 y0 y1 y2 g2 p2 A1' A2' C1' C2'
  obtain ⟨x0, x1, x2⟩ := cells3 g3
  obtain ⟨y0, y1, y2⟩ := cells3 p3
  go_wp2_with fail
  refine (eqIntS_k A2.out C2.out).mono ?_
  rintro e w4 ⟨rfl, hb4⟩
  have HB4 : Hid (Below w.heap.size w w4) := HB3.out.trans (hb4.mono HB3.out.size)
  clear hb4
  go_wp2_with fail
  go_ret
  exact ⟨rfl, HB4.out⟩

/-- The marks that an array takes. -/
def aCnt (x : List (List Int × Bool) × List Int × List Int) : Nat := cntL cCnt x.1 + x.2.1.length + x.2.2.length

def aMk (x : List (List Int × Bool) × List Int × List Int) (k : Nat) : List (List Int × Bool) × List Int × List Int :=
  (mkL cMk cCnt k x.1, marksI (k + cntL cCnt x.1) x.2.1.length, marksI (k + cntL cCnt x.1 + x.2.1.length) x.2.2.length)

set_option maxHeartbeats 2000000 in
theorem markArray_k {cs : List Value} {S : List Nat} {x : List (List Int × Bool) × List Int × List Int} {w : World} (h : arrK.own w S cs x) (k0 : Nat) (hk : k0 + aCnt x ≤ 1000000000) :
    Calls Tryd.prog 25 #[.agg cs.toArray, .int .i64 k0] w fun e w' => e = .returned (.int .i64 ((k0 + aCnt x : Nat) : Int)) ∧ arrK.own w' S cs (aMk x k0) ∧ OnlyS S w w' := by
  obtain ⟨a0, n0, c0, a1, n1, c1, a2, n2, c2, S0, S1, S2, rfl, rfl, hn, h0, h1, h2⟩ := arr_own h
  have hlt := arrK.lt h
  obtain ⟨w1, hw1⟩ : ∃ u, w.alloc (.cells #[.slice a0 n0 c0, .slice a1 n1 c1, .slice a2 n2 c2] 31) = u := ⟨_, rfl⟩
  have hb1 : Below w.heap.size w w1 := by subst hw1; exact (Below.refl _ _).alloc (Nat.le_refl _) _
  have g1 : w1.heap[w.heap.size]? = some (.cells #[.slice a0 n0 c0, .slice a1 n1 c1, .slice a2 n2 c2] 31) := by subst hw1; exact heap_alloc_new _ _
  have HQ : Hid (∀ b ∈ S0 ++ (S1 ++ S2), b ≠ w.heap.size) := fun b hb => by have := hlt b hb; omega
  obtain ⟨q0, q1, q2⟩ := nodup3 hn
  have Q0 := Lib.hid q0
  have Q1 := Lib.hid q1
  have Q2 := Lib.hid q2
  have HND := Lib.hid hn
  have H0 := Lib.hid (cellsK.ownBelow h0 hb1)
  have H1 := Lib.hid (intsK.ownBelow h1 hb1)
  have H2 := Lib.hid (intsK.ownBelow h2 hb1)
  have O1 : Hid (OnlyS (S0 ++ (S1 ++ S2)) w w1) := Below.onlyS hb1
  unfold aCnt at hk ⊢
  obtain ⟨k1, hk1⟩ : ∃ k, k0 + cntL cCnt x.1 = k := ⟨_, rfl⟩
  obtain ⟨k2, hk2⟩ : ∃ k, k1 + x.2.1.length = k := ⟨_, rfl⟩
  obtain ⟨k3, hk3⟩ : ∃ k, k2 + x.2.2.length = k := ⟨_, rfl⟩
  rw [← Nat.add_assoc, ← Nat.add_assoc, hk1, hk2, hk3] at hk ⊢
  have HX : Hid (aMk x k0 = (mkL cMk cCnt k0 x.1, marksI k1 x.2.1.length, marksI k2 x.2.2.length)) := by
    show aMk _ _ = _
    unfold aMk
    rw [hk1, hk2]
  have HK1 := Lib.hid hk1
  have HK2 := Lib.hid hk2
  have HK3 := Lib.hid hk3
  obtain ⟨x0, x1, x2⟩ := cells3 g1
  clear h h0 h1 h2 hn hlt q0 q1 q2 hb1 hk1 hk2 hk3
  go_enter Tryd.func25, Tryd.ntmps25
  go_wp2_with fail
  refine (markCellS_k H0.out k0 (by have := HK1.out; have := HK2.out; have := HK3.out; omega)).mono ?_
  rintro e w2 ⟨rfl, own2, ho2⟩
  rw [HK1.out]
  have g2 := (ho2.block w.heap.size (lt_of_block g1) (fun hm => HQ.out _ (List.mem_append_left _ hm) rfl)).trans g1
  have R0 := Lib.hid own2
  have R1 := Lib.hid (intsK.ownKeep H1.out ho2 (fun b hb => (Q1.out b hb).1))
  have R2 := Lib.hid (intsK.ownKeep H2.out ho2 (fun b hb => (Q2.out b hb).1))
  have O2 : Hid (OnlyS (S0 ++ (S1 ++ S2)) w w2) := O1.out.trans (ho2.mono (fun b hb => List.mem_append_left _ hb))
  clear own2 ho2 x0 x1 x2 g1 H0 H1 H2 O1
  obtain ⟨x0, x1, x2⟩ := cells3 g2
  go_wp2_with fail
  refine (markIntS_k R1.out k1 (by have := HK2.out; have := HK3.out; omega)).mono ?_
  rintro e w3 ⟨rfl, own3, ho3⟩
  rw [HK2.out]
  have g3 := (ho3.block w.heap.size (lt_of_block g2) (fun hm => HQ.out _ (List.mem_append_right _ (List.mem_append_left _ hm)) rfl)).trans g2
  have T0 := Lib.hid (cellsK.ownKeep R0.out ho3 (fun b hb => (Q0.out b hb).1))
  have T1 := Lib.hid own3
  have T2 := Lib.hid (intsK.ownKeep R2.out ho3 (fun b hb => (Q2.out b hb).2))
  have O3 : Hid (OnlyS (S0 ++ (S1 ++ S2)) w w3) := O2.out.trans (ho3.mono (fun b hb => List.mem_append_right _ (List.mem_append_left _ hb)))
  clear own3 ho3 x0 x1 x2 g2 R0 R1 R2 O2
  obtain ⟨x0, x1, x2⟩ := cells3 g3
  go_wp2_with fail
  refine (markIntS_k T2.out k2 (by have := HK3.out; omega)).mono ?_
  rintro e w4 ⟨rfl, own4, ho4⟩
  rw [HK3.out]
  have U0 := Lib.hid (cellsK.ownKeep T0.out ho4 (fun b hb => (Q0.out b hb).2))
  have U1 := Lib.hid (intsK.ownKeep T1.out ho4 (fun b hb => (Q1.out b hb).2))
  have U2 := Lib.hid own4
  have O4 : Hid (OnlyS (S0 ++ (S1 ++ S2)) w w4) := O3.out.trans (ho4.mono (fun b hb => List.mem_append_right _ (List.mem_append_right _ hb)))
  clear own4 ho4 x0 x1 x2 g3 T0 T1 T2 O3
  go_wp2_with fail
  go_ret
  exact ⟨rfl, by rw [HX.out]; exact arr_of U0.out U1.out U2.out HND.out, O4.out⟩

set_option maxHeartbeats 2000000 in
theorem heldArray_k {cs : List Value} {x : List (List Int × Bool) × List Int × List Int} {w : World} (k0 : Nat) (h : arrK.rd w cs (aMk x k0)) (hk : k0 + aCnt x ≤ 1000000000) :
    Calls Tryd.prog 26 #[.agg cs.toArray, .int .i64 k0] w (Gives (.int .i64 ((k0 + aCnt x : Nat) : Int)) w) := by
  obtain ⟨a0, n0, c0, a1, n1, c1, a2, n2, c2, rfl, h0, h1, h2⟩ := arr_rd h
  obtain ⟨w1, hw1⟩ : ∃ u, w.alloc (.cells #[.slice a0 n0 c0, .slice a1 n1 c1, .slice a2 n2 c2] 31) = u := ⟨_, rfl⟩
  have HB1 : Hid (Below w.heap.size w w1) := by subst hw1; exact (Below.refl _ _).alloc (Nat.le_refl _) _
  have g1 : w1.heap[w.heap.size]? = some (.cells #[.slice a0 n0 c0, .slice a1 n1 c1, .slice a2 n2 c2] 31) := by subst hw1; exact heap_alloc_new _ _
  have H0 : Hid (cellsK.rd w1 [.slice a0 n0 c0] (mkL cMk cCnt k0 x.1)) := cellsK.below h0 HB1.out
  have H1 : Hid (intsK.rd w1 [.slice a1 n1 c1] (marksI (k0 + cntL cCnt x.1) x.2.1.length)) := intsK.below h1 HB1.out
  have H2 : Hid (intsK.rd w1 [.slice a2 n2 c2] (marksI (k0 + cntL cCnt x.1 + x.2.1.length) x.2.2.length)) := intsK.below h2 HB1.out
  unfold aCnt at hk ⊢
  obtain ⟨k1, hk1⟩ : ∃ k, k0 + cntL cCnt x.1 = k := ⟨_, rfl⟩
  obtain ⟨k2, hk2⟩ : ∃ k, k1 + x.2.1.length = k := ⟨_, rfl⟩
  obtain ⟨k3, hk3⟩ : ∃ k, k2 + x.2.2.length = k := ⟨_, rfl⟩
  rw [hk1] at H1
  rw [hk1, hk2] at H2
  rw [← Nat.add_assoc, ← Nat.add_assoc, hk1, hk2, hk3] at hk ⊢
  have HK1 := Lib.hid hk1
  have HK2 := Lib.hid hk2
  have HK3 := Lib.hid hk3
  have t1 : decide ((k1 : Int) < 0) = false := decide_eq_false (by omega)
  have t2 : decide ((k2 : Int) < 0) = false := decide_eq_false (by omega)
  have t3 : decide ((k3 : Int) < 0) = false := decide_eq_false (by omega)
  obtain ⟨x0, x1, x2⟩ := cells3 g1
  clear h h0 h1 h2 hk1 hk2 hk3
  go_enter Tryd.func26, Tryd.ntmps26
  go_wp2_with fail
  refine (heldCellS_k k0 H0.out (by have := HK1.out; have := HK2.out; have := HK3.out; omega)).mono ?_
  rintro e w2 ⟨rfl, hb2⟩
  rw [HK1.out]
  have g2 := keep_block hb2 g1 (lt_of_block g1)
  have HB2 : Hid (Below w.heap.size w w2) := HB1.out.trans (hb2.mono HB1.out.size)
  have R1 := Lib.hid (intsK.below H1.out hb2)
  have R2 := Lib.hid (intsK.below H2.out hb2)
  clear hb2 x0 x1 x2 g1 H0 H1 H2 HB1
  obtain ⟨x0, x1, x2⟩ := cells3 g2
  go_wp2_with fail
  refine (heldIntS_k k1 R1.out (by have := HK2.out; have := HK3.out; omega)).mono ?_
  rintro e w3 ⟨rfl, hb3⟩
  rw [HK2.out]
  have g3 := keep_block hb3 g2 (lt_of_block g2)
  have HB3 : Hid (Below w.heap.size w w3) := HB2.out.trans (hb3.mono HB2.out.size)
  have T2 := Lib.hid (intsK.below R2.out hb3)
  clear hb3 x0 x1 x2 g2 R1 R2 HB2
  obtain ⟨x0, x1, x2⟩ := cells3 g3
  go_wp2_with fail
  refine (heldIntS_k k2 T2.out (by have := HK3.out; omega)).mono ?_
  rintro e w4 ⟨rfl, hb4⟩
  rw [HK3.out]
  have HB4 : Hid (Below w.heap.size w w4) := HB3.out.trans (hb4.mono HB3.out.size)
  clear hb4
  go_wp2_with fail
  go_ret
  exact ⟨rfl, HB4.out⟩

/-- The elements in the rows of an array. -/
def arrN (x : List (List Int × Bool) × List Int × List Int) : Nat := (x.1.length + cntL symN x.1) + x.2.1.length + x.2.2.length

theorem szF_neg {k : Int} {t u : Nat} (h : szF k t < 0) (hu : t ≤ u) : szF k u = -1 := by
  unfold szF at h ⊢
  split at h
  · rw [if_pos (by omega)]
  · omega

theorem szF_add {k : Int} {t u : Nat} (h : ¬ szF k t < 0) : szF (szF k t) u = szF k (t + u) := by
  unfold szF at h
  split at h
  · omega
  · rename_i hh
    have e : szF k t = k - t := by unfold szF; exact if_neg hh
    rw [e]
    unfold szF
    by_cases h3 : k - (t : Int) - (u : Int) < 0
    · rw [if_pos h3, if_pos (by omega)]
    · rw [if_neg h3, if_neg (by omega)]
      omega

theorem szF_range {k : Int} {t : Nat} (hk : k ≤ 1048576) : szF k t ≤ 1048576 := by unfold szF; split <;> omega

theorem szF_ge {k : Int} {t : Nat} (h : ¬ szF k t < 0) : 0 ≤ szF k t ∧ (t : Int) ≤ k := by
  unfold szF at h ⊢
  split at h
  · omega
  · rename_i hh
    rw [if_neg hh]
    omega

set_option maxHeartbeats 2000000 in
theorem szArray_k {cs : List Value} {x : List (List Int × Bool) × List Int × List Int} {w : World} (h : arrK.rd w cs x) (k v : Int) (h0' : 0 ≤ k) (hk : k ≤ 1048576) (hv : szF k (arrN x) = v) :
    Calls Tryd.prog 27 #[.agg cs.toArray, .int .i64 k] w (Gives (.int .i64 v) w) := by
  obtain ⟨a0, n0, c0, a1, n1, c1, a2, n2, c2, rfl, h0, h1, h2⟩ := arr_rd h
  obtain ⟨l1, _, m1, _⟩ := Kn.row_len h1
  obtain ⟨l2, _, m2, _⟩ := Kn.row_len h2
  obtain ⟨w1, hw1⟩ : ∃ u, w.alloc (.cells #[.slice a0 n0 c0, .slice a1 n1 c1, .slice a2 n2 c2] 59) = u := ⟨_, rfl⟩
  have HB1 : Hid (Below w.heap.size w w1) := by subst hw1; exact (Below.refl _ _).alloc (Nat.le_refl _) _
  have g1 : w1.heap[w.heap.size]? = some (.cells #[.slice a0 n0 c0, .slice a1 n1 c1, .slice a2 n2 c2] 59) := by subst hw1; exact heap_alloc_new _ _
  have H0 := Lib.hid (cellsK.below h0 HB1.out)
  unfold arrN at hv
  rw [l1, l2] at hv
  obtain ⟨t0, ht0⟩ : ∃ t, x.1.length + cntL symN x.1 = t := ⟨_, rfl⟩
  rw [ht0] at hv
  have HT0 := Lib.hid ht0
  have HV := Lib.hid hv
  obtain ⟨v0, hv0⟩ : ∃ u, szF k t0 = u := ⟨_, rfl⟩
  have HV0 : Hid (szF k (x.1.length + cntL symN x.1) = v0) := by show _ = _; rw [ht0]; exact hv0
  obtain ⟨x0, x1, x2⟩ := cells3 g1
  by_cases hn0 : v0 < 0
  · have HE : Hid (-1 = v) := by show _ = _; rw [← hv]; exact (szF_neg (t := t0) (by rw [hv0]; exact hn0) (by omega)).symm
    have tn : decide (v0 < 0) = true := decide_eq_true hn0
    clear h h0 h1 h2 hv ht0 hv0 hn0
    go_enter Tryd.func27, Tryd.ntmps27
    go_wp2_with fail
    refine (szCellS_k H0.out k v0 h0' hk HV0.out).mono ?_
    rintro e w2 ⟨rfl, hb2⟩
    have HB2 : Hid (Below w.heap.size w w2) := HB1.out.trans (hb2.mono HB1.out.size)
    clear hb2
    go_wp2_with fail
    go_ret
    exact ⟨ret_i HE.out, HB2.out⟩
  have tn : decide (v0 < 0) = false := decide_eq_false hn0
  have q0 := szF_ge (k := k) (t := t0) (by rw [hv0]; exact hn0)
  have r0 := szF_range (k := k) (t := t0) hk
  have a01 := szF_add (k := k) (t := t0) (u := n1) (by rw [hv0]; exact hn0)
  rw [hv0] at q0 r0 a01
  obtain ⟨v1, hv1⟩ : ∃ u, szF v0 n1 = u := ⟨_, rfl⟩
  have HV1 := Lib.hid hv1
  have p0 : 0 ≤ v0 := q0.1
  by_cases hn1 : v1 < 0
  · have HE : Hid (-1 = v) := by show _ = _; rw [← hv]; exact (szF_neg (t := t0 + n1) (by rw [← a01, hv1]; exact hn1) (by omega)).symm
    have tn1 : decide (v1 < 0) = true := decide_eq_true hn1
    clear h h0 h1 h2 hv ht0 hv0 hn0 hn1 hv1 a01 q0
    go_enter Tryd.func27, Tryd.ntmps27
    go_wp2_with fail
    refine (szCellS_k H0.out k v0 h0' hk HV0.out).mono ?_
    rintro e w2 ⟨rfl, hb2⟩
    have g2 := keep_block hb2 g1 (lt_of_block g1)
    have HB2 : Hid (Below w.heap.size w w2) := HB1.out.trans (hb2.mono HB1.out.size)
    clear hb2 x0 x1 x2 g1
    obtain ⟨x0, x1, x2⟩ := cells3 g2
    go_wp2_with fail
    refine (szIntS_k a1 n1 c1 v0 v1 m1 p0 r0 HV1.out _).mono ?_
    rintro e w3 ⟨rfl, hb3⟩
    have HB3 : Hid (Below w.heap.size w w3) := HB2.out.trans (hb3.mono HB2.out.size)
    clear hb3
    go_wp2_with fail
    go_ret
    exact ⟨ret_i HE.out, HB3.out⟩
  have tn1 : decide (v1 < 0) = false := decide_eq_false hn1
  have q1 := szF_ge (k := v0) (t := n1) (by rw [hv1]; exact hn1)
  have r1 := szF_range (k := v0) (t := n1) r0
  have a12 := szF_add (k := v0) (t := n1) (u := n2) (by rw [hv1]; exact hn1)
  have a02 := szF_add (k := k) (t := t0) (u := n1 + n2) (by rw [hv0]; exact hn0)
  rw [hv0] at a02
  rw [hv1] at q1 r1 a12
  obtain ⟨v2, hv2⟩ : ∃ u, szF v1 n2 = u := ⟨_, rfl⟩
  have HV2 := Lib.hid hv2
  have p1 : 0 ≤ v1 := q1.1
  have HE : Hid (v2 = v) := by show _ = _; rw [← hv, ← hv2, a12, a02, Nat.add_assoc]
  have hv2b : v2 = -1 ∨ 0 ≤ v2 := by rw [← hv2]; unfold szF; split <;> omega
  clear h h0 h1 h2 hv ht0 hv0 hn0 hn1 hv1 a01 a12 a02 q0 q1 hv2
  rcases hv2b with rfl | hv2b
  · go_enter Tryd.func27, Tryd.ntmps27
    go_wp2_with fail
    refine (szCellS_k H0.out k v0 h0' hk HV0.out).mono ?_
    rintro e w2 ⟨rfl, hb2⟩
    have g2 := keep_block hb2 g1 (lt_of_block g1)
    have HB2 : Hid (Below w.heap.size w w2) := HB1.out.trans (hb2.mono HB1.out.size)
    clear hb2 x0 x1 x2 g1
    obtain ⟨x0, x1, x2⟩ := cells3 g2
    go_wp2_with fail
    refine (szIntS_k a1 n1 c1 v0 v1 m1 p0 r0 HV1.out _).mono ?_
    rintro e w3 ⟨rfl, hb3⟩
    have g3 := keep_block hb3 g2 (lt_of_block g2)
    have HB3 : Hid (Below w.heap.size w w3) := HB2.out.trans (hb3.mono HB2.out.size)
    clear hb3 x0 x1 x2 g2
    obtain ⟨x0, x1, x2⟩ := cells3 g3
    go_wp2_with fail
    refine (szIntS_k a2 n2 c2 v1 (-1) m2 p1 r1 HV2.out _).mono ?_
    rintro e w4 ⟨rfl, hb4⟩
    have HB4 : Hid (Below w.heap.size w w4) := HB3.out.trans (hb4.mono HB3.out.size)
    clear hb4
    go_wp2_with fail
    go_ret
    exact ⟨ret_i HE.out, HB4.out⟩
  · have tn2 : decide (v2 < 0) = false := decide_eq_false (by omega)
    go_enter Tryd.func27, Tryd.ntmps27
    go_wp2_with fail
    refine (szCellS_k H0.out k v0 h0' hk HV0.out).mono ?_
    rintro e w2 ⟨rfl, hb2⟩
    have g2 := keep_block hb2 g1 (lt_of_block g1)
    have HB2 : Hid (Below w.heap.size w w2) := HB1.out.trans (hb2.mono HB1.out.size)
    clear hb2 x0 x1 x2 g1
    obtain ⟨x0, x1, x2⟩ := cells3 g2
    go_wp2_with fail
    refine (szIntS_k a1 n1 c1 v0 v1 m1 p0 r0 HV1.out _).mono ?_
    rintro e w3 ⟨rfl, hb3⟩
    have g3 := keep_block hb3 g2 (lt_of_block g2)
    have HB3 : Hid (Below w.heap.size w w3) := HB2.out.trans (hb3.mono HB2.out.size)
    clear hb3 x0 x1 x2 g2
    obtain ⟨x0, x1, x2⟩ := cells3 g3
    go_wp2_with fail
    refine (szIntS_k a2 n2 c2 v1 v2 m2 p1 r1 HV2.out _).mono ?_
    rintro e w4 ⟨rfl, hb4⟩
    have HB4 : Hid (Below w.heap.size w w4) := HB3.out.trans (hb4.mono HB3.out.size)
    clear hb4
    go_wp2_with fail
    go_ret
    exact ⟨ret_i HE.out, HB4.out⟩

end Go.Proofs.YtfpfgaifhmgpiaaDoor

namespace Go.Proofs.YtfpfgaifhmgpiaaDoor
open Go.RowKit Go.PlainAid

set_option linter.unusedVariables false

variable {α : Type}

theorem Kn.rds_snoc (k : Kn α) {w : World} {x : α} {cs : List Value} (hx : k.rd w cs x) : ∀ {l : List α} {xs : List Value}, k.rds w xs l → k.rds w (xs ++ cs) (l ++ [x])
  | [], _, h => ⟨cs, [], by rw [show _ = [] from h]; simp, hx, rfl⟩
  | y :: l, _, ⟨c1, c2, e2, h1, h2⟩ => ⟨c1, c2 ++ cs, by rw [e2]; simp, h1, k.rds_snoc hx h2⟩

/-- What comes in as a slice of elements of a kind. -/
theorem Kn.row_in (k : Kn α) (T : TypeId) {w : World} {e : Sh} (he : e.size = k.K) (hK : 0 < k.K) (hf : ∀ cs, e.Fits w cs → ∃ x, k.rd w cs x) {cs : List Value} (h : Sh.Fits w (.row e) cs) : ∃ l, (k.row T).rd w cs l := by
  rcases h with rfl | ⟨ad, len, cap, rfl, hl, hm, hc⟩
  · exact ⟨[], none, 0, 0, [], rfl, rfl, ⟨Nat.le_refl _, Nat.zero_le _⟩, fun _ => rfl, rfl, .inl rfl⟩
  · have key : ∀ m, m ≤ len → ∃ (l : List α) (xs : List Value), l.length = m ∧ k.rds w xs l ∧ ∀ j, j < xs.length → w.cell? (ad.add j) = xs[j]? := by
      intro m
      induction m with
      | zero => intro _; exact ⟨[], [], rfl, rfl, fun j hj => absurd hj (Nat.not_lt_zero _)⟩
      | succ m ih =>
        intro hmm
        obtain ⟨l, xs, h1, h2, h3⟩ := ih (by omega)
        obtain ⟨ds, hdl, hdc, hdf⟩ := hc m (by omega)
        obtain ⟨x, hx⟩ := hf ds hdf
        have hxl := k.rds_len h2
        refine ⟨l ++ [x], xs ++ ds, by simp [h1], k.rds_snoc hx h2, fun j hj => ?_⟩
        by_cases hjx : j < xs.length
        · rw [List.getElem?_append_left hjx]; exact h3 j hjx
        · rw [List.length_append] at hj
          rw [List.getElem?_append_right (by omega)]
          have := hdc (j - xs.length) (by omega)
          rw [he] at this
          rw [← this]
          congr 2
          rw [hxl, h1]
          rw [hxl, h1] at hjx
          omega
    obtain ⟨l, xs, h1, h2, h3⟩ := key len (Nat.le_refl _)
    refine ⟨l, some ad, len, cap, xs, rfl, h1, ⟨hl, Nat.le_trans hl hm⟩, (fun h => by cases h), h2, ?_⟩
    by_cases h0 : len = 0
    · exact .inl (List.length_eq_zero_iff.1 (by omega))
    · obtain ⟨b, off, spot⟩ := ad
      have hxl := k.rds_len h2
      have h00 : 0 < xs.length := by rw [hxl, h1]; exact Nat.mul_pos (by omega) hK
      have hspot : spot = none := by
        have := h3 0 h00
        rw [List.getElem?_eq_getElem h00] at this
        simpa [Addr.add] using World.cell?_spot this
      subst hspot
      refine .inr ⟨b, off, rfl, fun j hj => ?_⟩
      have := h3 j hj
      rw [Addr.add_lit] at this
      exact this

theorem ints_in {w : World} {cs : List Value} (h : Sh.Fits w (.row (.num .i64)) cs) : ∃ l, intsK.rd w cs l :=
  intK.row_in _ rfl (by decide) (fun ds hd => by obtain ⟨x, e, _⟩ := hd; exact ⟨x, e⟩) h

theorem cell_in {w : World} {cs : List Value} (h : Sh.Fits w (.and (.row (.num .i64)) (.and .flag .fin)) cs) : ∃ x, cellK.rd w cs x := by
  obtain ⟨c1, c2, rfl, h1, c3, c4, rfl, ⟨b, rfl⟩, h4⟩ := h
  obtain rfl : c4 = [] := h4
  obtain ⟨l, hl⟩ := ints_in h1
  exact ⟨(l, b), c1, [.bool b] ++ [], rfl, hl, by rw [List.append_nil]; rfl⟩

theorem cells_in {w : World} {cs : List Value} (h : Sh.Fits w (.row (.and (.row (.num .i64)) (.and .flag .fin))) cs) : ∃ l, cellsK.rd w cs l :=
  cellK.row_in _ rfl (by decide) (fun ds hd => cell_in hd) h

theorem arr_in {w : World} {cs : List Value} (h : Sh.Fits w (.and (.row (.and (.row (.num .i64)) (.and .flag .fin))) (.and (.row (.num .i64)) (.and (.row (.num .i64)) .fin))) cs) : ∃ x, arrK.rd w cs x := by
  obtain ⟨c1, c2, rfl, h1, c3, c4, rfl, h3, c5, c6, rfl, h5, h6⟩ := h
  obtain rfl : c6 = [] := h6
  obtain ⟨x, hx⟩ := cells_in h1
  obtain ⟨y, hy⟩ := ints_in h3
  obtain ⟨z, hz⟩ := ints_in h5
  exact ⟨(x, y, z), c1, c3 ++ (c5 ++ []), rfl, hx, c3, c5 ++ [], rfl, hy, by rw [List.append_nil]; exact hz⟩

set_option maxHeartbeats 4000000 in
theorem toArray_k {cs : List Value} {x : List (List Int × Bool) × List Int × List Int} {w : World} (h : arrK.rd w cs x) (hl : x.1.length ≤ 3000000) (hs : ∀ c ∈ x.1, c.1.length ≤ 4000000) (hl1 : x.2.1.length ≤ 4000000) (hl2 : x.2.2.length ≤ 4000000) :
    Calls Tryd.prog 30 #[.agg cs.toArray] w (GivesS arrK x w) := by
  obtain ⟨a0, n0, c0, a1, n1, c1, a2, n2, c2, rfl, h0, h1, h2⟩ := arr_rd h
  obtain ⟨x, y, z⟩ := x
  obtain ⟨w1, hw1⟩ : ∃ u, ((w.alloc (.cells #[.slice a0 n0 c0, .slice a1 n1 c1, .slice a2 n2 c2] 59)).alloc (.cells #[.slice none 0 0, .slice none 0 0, .slice none 0 0] 31)).alloc (.cells #[.slice none 0 0, .slice none 0 0, .slice none 0 0] 31) = u := ⟨_, rfl⟩
  have HB1 : Hid (Below w.heap.size w w1) := by subst hw1; exact (((Below.refl _ _).alloc (Nat.le_refl _) _).alloc (by simp) _).alloc (by simp; omega) _
  have p1 : w1.heap[w.heap.size]? = some (.cells #[.slice a0 n0 c0, .slice a1 n1 c1, .slice a2 n2 c2] 59) := by subst hw1; exact box3_0 _ _ _ _
  have b1 : w1.heap[w.heap.size + 1]? = some (.cells #[.slice none 0 0, .slice none 0 0, .slice none 0 0] 31) := by subst hw1; exact box3_1 _ _ _ _
  have o1 : w1.heap[w.heap.size + 1 + 1]? = some (.cells #[.slice none 0 0, .slice none 0 0, .slice none 0 0] 31) := by subst hw1; exact box3_2 _ _ _ _
  have HS1 : Hid (w.heap.size + 1 + 1 < w1.heap.size) := lt_of_block o1
  have H0 := Lib.hid (cellsK.below h0 HB1.out)
  have H1 := Lib.hid h1
  have H2 := Lib.hid h2
  have HSS := Lib.hid hs
  obtain ⟨d0, d1, d2⟩ := cells3 p1
  clear h h0 h1 h2 hs
  go_enter Tryd.func30, Tryd.ntmps30
  go_wp2_with fail
  refine (toCellS_k H0.out hl HSS.out).mono ?_
  rintro e w2 ⟨v, S0, rfl, own2, hS0, hb2⟩
  obtain ⟨xa, xn, xc, e2⟩ := cells_shape (cellsK.read own2)
  simp only [List.cons.injEq, and_true] at e2
  subst e2
  have p2 := keep_block hb2 p1 (lt_of_block p1)
  have b2 := keep_block hb2 b1 (lt_of_block b1)
  have o2 := keep_block hb2 o1 (lt_of_block o1)
  have HB2 : Hid (Below w.heap.size w w2) := HB1.out.trans (hb2.mono HB1.out.size)
  obtain ⟨e0, e1, e2⟩ := cells3 o2
  have f0 := thawed o2 0
  obtain ⟨w3, hw3⟩ : ∃ u, w2.setCell ⟨w.heap.size + 1 + 1, 0, none⟩ (.slice xa xn xc) = u := ⟨_, rfl⟩
  have o3 : w3.heap[w.heap.size + 1 + 1]? = some (.cells #[.slice xa xn xc, .slice none 0 0, .slice none 0 0] 31) := by rw [← hw3]; exact set_cells o2 0 _
  have b3 : w3.heap[w.heap.size + 1]? = some (.cells #[.slice none 0 0, .slice none 0 0, .slice none 0 0] 31) := by rw [← hw3]; exact (Below.heap_setCell _ _ _ _ (by simp)).trans b2
  have p3 : w3.heap[w.heap.size]? = some (.cells #[.slice a0 n0 c0, .slice a1 n1 c1, .slice a2 n2 c2] 59) := by rw [← hw3]; exact (Below.heap_setCell _ _ _ _ (by simp; omega)).trans p2
  have HB3 : Hid (Below w.heap.size w w3) := by show Below _ _ _; rw [← hw3]; exact HB2.out.setCell (by simp; omega) _
  have R0 : Hid (cellsK.own w3 S0 [.slice xa xn xc] x ∧ ∀ b ∈ S0, w1.heap.size ≤ b ∧ b < w3.heap.size) := by
    have hs1 := HS1.out
    refine ⟨?_, fun b hb => ⟨hS0 b hb, ?_⟩⟩
    · rw [← hw3]; exact cellsK.ownSet own2 (fun b hb => by have := hS0 b hb; simp; omega) _
    · rw [← hw3]; have := cellsK.lt own2 b hb; simpa [World.setCell] using this
  have HS3 : Hid (w1.heap.size ≤ w3.heap.size) := by show _ ≤ _; rw [← hw3]; simpa [World.setCell] using hb2.size
  have H1' : Hid (intsK.rd w3 [.slice a1 n1 c1] y) := intsK.below H1.out HB3.out
  have H2' := H2
  clear hb2 own2 hS0 hw1 p1 b1 o1 d0 d1 d2 HB1 H0 H1
  obtain ⟨d0, d1, d2⟩ := cells3 p3
  go_wp2_with fail
  refine (toIntS_k H1'.out hl1).mono ?_
  rintro e w4 ⟨v, S1, rfl, own4, hS1, hb4⟩
  obtain ⟨ya, yn, yc, rfl⟩ := own_cells own4
  have p4 := keep_block hb4 p3 (lt_of_block p3)
  have b4 := keep_block hb4 b3 (lt_of_block b3)
  have o4 := keep_block hb4 o3 (lt_of_block o3)
  have HB4 : Hid (Below w.heap.size w w4) := HB3.out.trans (hb4.mono HB3.out.size)
  have T0 := Lib.hid (cellsK.ownBelow R0.out.1 hb4)
  clear e0 e1 e2 f0 d0 d1 d2 hw3 o2 b2 p2
  obtain ⟨e0, e1, e2⟩ := cells3 o4
  have f1 := thawed o4 1
  obtain ⟨w5, hw5⟩ : ∃ u, w4.setCell ⟨w.heap.size + 1 + 1, 1, none⟩ (.slice ya yn yc) = u := ⟨_, rfl⟩
  have o5 : w5.heap[w.heap.size + 1 + 1]? = some (.cells #[.slice xa xn xc, .slice ya yn yc, .slice none 0 0] 31) := by rw [← hw5]; exact set_cells o4 1 _
  have b5 : w5.heap[w.heap.size + 1]? = some (.cells #[.slice none 0 0, .slice none 0 0, .slice none 0 0] 31) := by rw [← hw5]; exact (Below.heap_setCell _ _ _ _ (by simp)).trans b4
  have p5 : w5.heap[w.heap.size]? = some (.cells #[.slice a0 n0 c0, .slice a1 n1 c1, .slice a2 n2 c2] 59) := by rw [← hw5]; exact (Below.heap_setCell _ _ _ _ (by simp; omega)).trans p4
  have HB5 : Hid (Below w.heap.size w w5) := by show Below _ _ _; rw [← hw5]; exact HB4.out.setCell (by simp; omega) _
  have T0' : Hid (cellsK.own w5 S0 [.slice xa xn xc] x) := by
    have hs1 := HS1.out
    show cellsK.own _ _ _ _
    rw [← hw5]; exact cellsK.ownSet T0.out (fun b hb => by have := (R0.out.2 b hb).1; simp; omega) _
  have T1 : Hid (intsK.own w5 S1 [.slice ya yn yc] y ∧ ∀ b ∈ S1, w3.heap.size ≤ b ∧ b < w5.heap.size) := by
    have hs1 := HS1.out
    have hs3 := HS3.out
    refine ⟨?_, fun b hb => ⟨hS1 b hb, ?_⟩⟩
    · rw [← hw5]; exact intsK.ownSet own4 (fun b hb => by have := hS1 b hb; simp; omega) _
    · rw [← hw5]; have := intsK.lt own4 b hb; simpa [World.setCell] using this
  have HS5 : Hid (w3.heap.size ≤ w5.heap.size) := by show _ ≤ _; rw [← hw5]; simpa [World.setCell] using hb4.size
  have H2'' : Hid (intsK.rd w5 [.slice a2 n2 c2] z) := intsK.below H2'.out HB5.out
  clear hb4 own4 hS1 p3 b3 o3 T0 H2' H1' H2
  obtain ⟨d0, d1, d2⟩ := cells3 p5
  go_wp2_with fail
  refine (toIntS_k H2''.out hl2).mono ?_
  rintro e w6 ⟨v, S2, rfl, own6, hS2, hb6⟩
  obtain ⟨za, zn, zc, rfl⟩ := own_cells own6
  have b6 := keep_block hb6 b5 (lt_of_block b5)
  have o6 := keep_block hb6 o5 (lt_of_block o5)
  have HB6 : Hid (Below w.heap.size w w6) := HB5.out.trans (hb6.mono HB5.out.size)
  have U0 := Lib.hid (cellsK.ownBelow T0'.out hb6)
  have U1 := Lib.hid (intsK.ownBelow T1.out.1 hb6)
  have U2 := Lib.hid own6
  have HS2 := Lib.hid hS2
  have HND : Hid ((S0 ++ (S1 ++ S2)).Nodup) := by
    have hs5 := HS5.out
    refine nodup_of (cellsK.nodup U0.out) (intsK.nodup U1.out) (intsK.nodup own6) (fun b hb hb' => ?_) (fun b hb hb' => ?_) (fun b hb hb' => ?_)
    · have := (T1.out.2 b hb).1; have := (R0.out.2 b hb').2; omega
    · have := hS2 b hb; have := (R0.out.2 b hb').2; omega
    · have := hS2 b hb; have := (T1.out.2 b hb').2; omega
  clear e0 e1 e2 f1 d0 d1 d2 hw5 o4 b4 p4 hb6 own6 hS2
  obtain ⟨e0, e1, e2⟩ := cells3 o6
  have f2 := thawed o6 2
  have o7 := set_cells o6 2 (.slice za zn zc)
  have b7 := (Below.heap_setCell w6 ⟨w.heap.size + 1 + 1, 2, none⟩ (.slice za zn zc) (w.heap.size + 1) (by simp)).trans b6
  obtain ⟨y0, y1, y2⟩ := cells3 b7
  obtain ⟨q0, q1, q2⟩ := cells3 o7
  have g0 := thawed b7 0
  have g1 := thawed b7 1
  have g2 := thawed b7 2
  go_wp2_with fail
  (try simp only [Exit.inBlock, Exit.then])
  have hs1 := HS1.out
  have hs3 := HS3.out
  have hs5 := HS5.out
  refine bodyPost_ret (v := .agg #[.slice xa xn xc, .slice ya yn yc, .slice za zn zc]) ?_ rfl ⟨[.slice xa xn xc, .slice ya yn yc, .slice za zn zc], S0 ++ (S1 ++ S2), rfl, ?_, fun b hb => ?_, ?_⟩
  · simp [results, Tryd.results30, go_sem, y0, y1, y2]
  · have k0 : ∀ b ∈ S0, b ≠ w.heap.size + 1 + 1 ∧ b ≠ w.heap.size + 1 := fun b hb => by have := (R0.out.2 b hb).1; omega
    have k1 : ∀ b ∈ S1, b ≠ w.heap.size + 1 + 1 ∧ b ≠ w.heap.size + 1 := fun b hb => by have := (T1.out.2 b hb).1; omega
    have k2 : ∀ b ∈ S2, b ≠ w.heap.size + 1 + 1 ∧ b ≠ w.heap.size + 1 := fun b hb => by have := HS2.out b hb; omega
    refine arr_of ?_ ?_ ?_ HND.out
    · exact cellsK.ownSet (cellsK.ownSet (cellsK.ownSet (cellsK.ownSet U0.out (fun b hb => (k0 b hb).1) _) (fun b hb => (k0 b hb).2) _) (fun b hb => (k0 b hb).2) _) (fun b hb => (k0 b hb).2) _
    · exact intsK.ownSet (intsK.ownSet (intsK.ownSet (intsK.ownSet U1.out (fun b hb => (k1 b hb).1) _) (fun b hb => (k1 b hb).2) _) (fun b hb => (k1 b hb).2) _) (fun b hb => (k1 b hb).2) _
    · exact intsK.ownSet (intsK.ownSet (intsK.ownSet (intsK.ownSet U2.out (fun b hb => (k2 b hb).1) _) (fun b hb => (k2 b hb).2) _) (fun b hb => (k2 b hb).2) _) (fun b hb => (k2 b hb).2) _
  · rcases List.mem_append.1 hb with h | h
    · have := (R0.out.2 b h).1; omega
    · rcases List.mem_append.1 h with h | h
      · have := (T1.out.2 b h).1; omega
      · have := HS2.out b h; omega
  · exact (((HB6.out.setCell (by simp; omega) _).setCell (by simp) _).setCell (by simp) _).setCell (by simp) _

end Go.Proofs.YtfpfgaifhmgpiaaDoor

namespace Go.Proofs.YtfpfgaifhmgpiaaDoor
open Go.RowKit Go.PlainAid

set_option linter.unusedVariables false

theorem symOk_no {l : List Int} {m : Int} {k : Nat} (hk : k < l.length) (h : ¬ El (l.getD k 0)) : decide (SymOk l m) = false :=
  decide_eq_false fun q => h (el_getD q.1 hk)

theorem symOk_all {l : List Int} {m : Int} (h : Els l) : decide (SymOk l m) = ((l.length : Int) == m) := by
  by_cases e : (l.length : Int) = m
  · rw [decide_eq_true (show SymOk l m from ⟨h, e⟩)]; simpa using e
  · rw [decide_eq_false (fun q : SymOk l m => e q.2)]; simpa using e

set_option maxHeartbeats 1000000 in
set_option maxRecDepth 100000 in
theorem specSymbolsOk_is {a : Option Addr} {c n : Nat} {l : List Int} {m : Int} (hn : l.length = n) {w : World} (h : RowI w a l) (v : Bool) (hv : decide (SymOk l m) = v) (hl : (n : Int) ≤ 9223372036854775807) :
    Calls Tryd.prog 85 #[.slice a n c, .int .i64 m] w (Says (.bool v) w) := by
  have HN := Lib.hid hn
  have HA := Lib.hid h
  have HV := Lib.hid hv
  clear hn h hv
  go_enter Tryd.func85, Tryd.ntmps85
  go_wp2_with fail
  go_loopw [5] (fun i wr => ∃ k : Nat, k ≤ n ∧ i = .int .i64 k ∧ Els (l.take k) ∧ wr = w) (fun i _ => n - (intOf i).toNat)
  case atStart => exact ⟨0, Nat.zero_le _, rfl, (fun v hv => by cases hv), rfl⟩
  case round =>
    obtain ⟨k, hk, rfl, hels, rfl⟩ := hrel
    have HE := Lib.hid hels
    clear hels
    by_cases hlt : k < n
    · obtain ⟨ga, oa, rfl, hca⟩ := HA.out.at (k := k) (by rw [HN.out]; exact hlt)
      obtain ⟨x, hx⟩ : ∃ x, l.getD k 0 = x := ⟨_, rfl⟩
      rw [hx] at hca
      by_cases he : El x
      · have HS := Lib.hid (els_take (by rw [HN.out]; exact hlt) HE.out (hx ▸ he))
        have KA := Lib.hid (decide_eq_true he)
        clear hx he
        go_wp2_with fail
        refine (specIs_is x true KA.out _).mono ?_
        rintro e w2 ⟨rfl, rfl⟩
        go_wp2_with fail
        go_roundw
        case rel => exact ⟨k + 1, by omega, by go_num, HS.out, by trivial⟩
        case measure => simp [intOf]; omega
      · have HF : Hid (false = v) := by show _ = _; rw [← HV.out]; exact (symOk_no (by rw [HN.out]; exact hlt) (hx ▸ he)).symm
        have KA := Lib.hid (decide_eq_false he)
        clear hx he
        go_wp2_with fail
        refine (specIs_is x false KA.out _).mono ?_
        rintro e w2 ⟨rfl, rfl⟩
        go_wp2_with fail
        go_ret
        exact ⟨ret_b HF.out, rfl⟩
    · obtain rfl : k = n := by omega
      have HF : Hid (((k : Int) == m) = v) := by
        show _ = _
        rw [← HV.out, symOk_all (by have := HE.out; rwa [List.take_of_length_le (by rw [HN.out]; omega)] at this), HN.out]
      go_wp2_with fail
      go_ret
      exact ⟨ret_b HF.out, rfl⟩

end Go.Proofs.YtfpfgaifhmgpiaaDoor

namespace Go.Proofs.YtfpfgaifhmgpiaaDoor
open Go.RowKit Go.PlainAid

set_option linter.unusedVariables false

/-- A call that answers a row of numbers of its own, anywhere in its block. -/
def GivesJ (n : Nat) (l : List Int) (w : World) (e : Ending) (w' : World) : Prop :=
  ∃ a c, e = .returned (.slice a n c) ∧ n ≤ c ∧ OwnJ w.heap.size (.slice a n c) l w' ∧ Below w.heap.size w w'

def ISymbolsOk : Prop := ∀ (a : Option Addr) (n c : Nat) (l : List Int) (m : Int) (v : Bool) (hv : decide (SymOk l m) = v) (hn : l.length = n) (hl : n ≤ 3000000) (hc : n ≤ c) (w : World) (h : RowI w a l), Calls Tryd.prog 83 #[.slice a n c, .int .i64 m] w (Gives (.bool v) w)

def IEncodeSymbols (G : World → Prop) : Prop := ∀ (a : Option Addr) (n c : Nat) (l : List Int) (k : Nat) (hk : k ≤ 11) (v : List Int) (hv : encI l = v) (hk2 : v.length = k) (hn : l.length = n) (hl : n ≤ 3000000) (hc : n ≤ c) (w : World) (hG : G w) (h : RowI w a l), Calls Tryd.prog 91 #[.slice a n c] w (GivesJ k v w)

end Go.Proofs.YtfpfgaifhmgpiaaDoor

namespace Go.Proofs.YtfpfgaifhmgpiaaDoor
open Go.RowKit Go.PlainAid

set_option linter.unusedVariables false

theorem OwnI.cap_le {B n c : Nat} {a : Option Addr} {l : List Int} {w : World} (h : OwnI B (.slice a n c) l w) (hn : l.length = n) : n ≤ c := by
  rcases h.2 with ⟨hv, h0⟩ | ⟨g, cap, cur, hv, hB, hh, h1, _, _, _⟩
  · cases hv; omega
  · cases hv; simp_all

end Go.Proofs.YtfpfgaifhmgpiaaDoor

namespace Go.Proofs.YtfpfgaifhmgpiaaDoor
open Go.RowKit Go.PlainAid

set_option linter.unusedVariables false

/-- The data of an array. -/
abbrev Arr := List (List Int × Bool) × List Int × List Int

def AgeOk (v : Int) : Prop := 0 ≤ v ∧ v ≤ 100000

instance (v : Int) : Decidable (AgeOk v) := inferInstanceAs (Decidable (_ ∧ _))

/-- A valid array of a geometry. -/
def ArrOk (ga gb gr gd : Int) (x : Arr) : Prop :=
  GeoOk ga gb gr gd ∧ (x.1.length : Int) = lineN ga gb gr gd ∧ (x.2.1.length : Int) = bankN ga gb gr gd * gr ∧ x.2.2.length = x.2.1.length ∧ (∀ c ∈ x.1, SymOk c.1 11) ∧ (∀ v ∈ x.2.1, AgeOk v) ∧ (∀ v ∈ x.2.2, AgeOk v)

instance (ga gb gr gd : Int) (x : Arr) : Decidable (ArrOk ga gb gr gd x) := inferInstanceAs (Decidable (_ ∧ _))

theorem rowsN_range {a b c d : Int} (h : GeoOk a b c d) : 0 ≤ bankN a b c d * c ∧ bankN a b c d * c ≤ 128 := by
  have h1 := bankN_range a b c d
  obtain ⟨_, _, ⟨h2, h3⟩, h4, h5⟩ := h
  have e1 : 0 ≤ bankN a b c d * c := Int.mul_nonneg h1.1 (by omega)
  have e2 : bankN a b c d * c ≤ 8 * 16 := Int.mul_le_mul h1.2 h3 (by omega) (by omega)
  exact ⟨e1, by omega⟩

theorem all_take {β : Type} {P : β → Prop} {l : List β} {k : Nat} (hk : k < l.length) (h : ∀ v ∈ l.take k, P v) (he : P l[k]) : ∀ v ∈ l.take (k + 1), P v := by
  rw [List.take_succ_eq_append_getElem hk]
  intro v hv
  rcases List.mem_append.mp hv with h1 | h1
  · exact h v h1
  · rw [List.mem_singleton.mp h1]; exact he

set_option maxHeartbeats 8000000 in
set_option maxRecDepth 100000 in
theorem specArrayOk_is (ga gb gr gd : Int) {cs : List Value} {x : Arr} {w : World} (h : arrK.rd w cs x) (v : Bool) (hv : decide (ArrOk ga gb gr gd x) = v) :
    Calls Tryd.prog 64 #[.agg #[.int .i64 ga, .int .i64 gb, .int .i64 gr, .int .i64 gd], .agg cs.toArray] w (Gives (.bool v) w) := by
  obtain ⟨a0, n0, c0, a1, n1, c1, a2, n2, c2, rfl, h0, h1, h2⟩ := arr_rd h
  obtain ⟨l0, _, m0, _⟩ := Kn.row_len h0
  obtain ⟨l1, _, m1, _⟩ := Kn.row_len h1
  obtain ⟨l2, _, m2, _⟩ := Kn.row_len h2
  obtain ⟨x, y, z⟩ := x
  unfold maxLen at m0 m1 m2
  obtain ⟨w1, hw1⟩ : ∃ u, (w.alloc (.cells #[.int .i64 ga, .int .i64 gb, .int .i64 gr, .int .i64 gd] 25)).alloc (.cells #[.slice a0 n0 c0, .slice a1 n1 c1, .slice a2 n2 c2] 31) = u := ⟨_, rfl⟩
  have HB1 : Hid (Below w.heap.size w w1) := by subst hw1; exact ((Below.refl _ _).alloc (Nat.le_refl _) _).alloc (by simp) _
  have g1 : w1.heap[w.heap.size]? = some (.cells #[.int .i64 ga, .int .i64 gb, .int .i64 gr, .int .i64 gd] 25) := by subst hw1; exact heap_alloc2_old _ _ _
  have p1 : w1.heap[w.heap.size + 1]? = some (.cells #[.slice a0 n0 c0, .slice a1 n1 c1, .slice a2 n2 c2] 31) := by subst hw1; exact heap_alloc2_new _ _ _
  have H0 : Hid (cellsK.rd w1 [.slice a0 n0 c0] x) := cellsK.below h0 HB1.out
  have H1 : Hid (intsK.rd w1 [.slice a1 n1 c1] y) := intsK.below h1 HB1.out
  have H2 : Hid (intsK.rd w1 [.slice a2 n2 c2] z) := intsK.below h2 HB1.out
  have HV := Lib.hid hv
  have L0 : Hid (x.length = n0) := l0
  have L1 : Hid (y.length = n1) := l1
  have L2 : Hid (z.length = n2) := l2
  obtain ⟨x0, x1, x2, x3⟩ := cells4 g1
  obtain ⟨y0, y1, y2⟩ := cells3 p1
  have zx0 := fun q : Later w1 => q.cell x0
  have zx1 := fun q : Later w1 => q.cell x1
  have zx2 := fun q : Later w1 => q.cell x2
  have zx3 := fun q : Later w1 => q.cell x3
  have zy0 := fun q : Later w1 => q.cell y0
  have zy1 := fun q : Later w1 => q.cell y1
  have zy2 := fun q : Later w1 => q.cell y2
  clear h h0 h1 h2 hv l0 l1 l2
  obtain ⟨L, hL⟩ : ∃ L, lineN ga gb gr gd = L := ⟨_, rfl⟩
  obtain ⟨N, hN⟩ : ∃ N, bankN ga gb gr gd = N := ⟨_, rfl⟩
  have HLN := Lib.hid hL
  have HBN := Lib.hid hN
  obtain ⟨L, hL⟩ : ∃ L, lineN ga gb gr gd = L := ⟨_, rfl⟩
  obtain ⟨N, hN⟩ : ∃ N, bankN ga gb gr gd = N := ⟨_, rfl⟩
  have HLN := Lib.hid hL
  have HBN := Lib.hid hN
  by_cases hg : GeoOk ga gb gr gd
  case neg =>
    have KG := Lib.hid (decide_eq_false hg)
    have HE : Hid (false = v) := by show _ = _; rw [← HV.out]; exact (decide_eq_false (fun h => hg h.1)).symm
    clear hg hL hN
    go_enter Tryd.func64, Tryd.ntmps64
    go_wp2_with fail
    refine wp_region_later (by kernel_rfl) (by kernel_rfl) ?_
    repeat (go_big_quiet_step (first | (go_at_call 35; exact Gives.later _ (specGeoOk_is _ _ _ _ _ KG.out _)) | (go_at_call 44; exact Gives.later _ (specLine_is _ _ _ _ _ HLN.out _)) | (go_at_call 12; exact Gives.later _ (specBank_is _ _ _ _ _ HBN.out _))))
    refine wpQuiet_nil ?_
    rintro w2 ⟨zz, hz⟩
    have hb2 : Below w1.heap.size w1 w2 := hz ▸ zz.ok
    have HB2 : Hid (Below w.heap.size w w2) := HB1.out.trans (hb2.mono HB1.out.size)
    clear hb2 hz zz zx0 zx1 zx2 zx3 zy0 zy1 zy2
    go_wp2_with fail
    go_ret
    exact ⟨ret_b HE.out, HB2.out⟩
  have KG := Lib.hid (decide_eq_true hg)
  have hrr := rowsN_range hg
  rw [hN] at hrr
  obtain ⟨R, hR⟩ : ∃ R, N * gr = R := ⟨_, rfl⟩
  rw [hR] at hrr
  have wR : IntKind.i64.wrap R = R := IntWalk.i64_in _ (by omega)
  have HRR : Hid (bankN ga gb gr gd * gr = R) := by show _ = _; rw [hN]; exact hR
  by_cases hl0 : (n0 : Int) = L
  case neg =>
    have t0 : ((n0 : Int) != L) = true := by rw [bne_iff_ne]; exact hl0
    have HE : Hid (false = v) := by show _ = _; rw [← HV.out]; exact (decide_eq_false (fun h => hl0 (by rw [← L0.out, ← HLN.out]; exact h.2.1))).symm
    clear hg hL hN hl0
    go_enter Tryd.func64, Tryd.ntmps64
    go_wp2_with fail
    refine wp_region_later (by kernel_rfl) (by kernel_rfl) ?_
    repeat (go_big_quiet_step (first | (go_at_call 35; exact Gives.later _ (specGeoOk_is _ _ _ _ _ KG.out _)) | (go_at_call 44; exact Gives.later _ (specLine_is _ _ _ _ _ HLN.out _)) | (go_at_call 12; exact Gives.later _ (specBank_is _ _ _ _ _ HBN.out _))))
    refine wpQuiet_nil ?_
    rintro w2 ⟨zz, hz⟩
    have hb2 : Below w1.heap.size w1 w2 := hz ▸ zz.ok
    have HB2 : Hid (Below w.heap.size w w2) := HB1.out.trans (hb2.mono HB1.out.size)
    clear hb2 hz zz zx0 zx1 zx2 zx3 zy0 zy1 zy2
    go_wp2_with fail
    go_ret
    exact ⟨ret_b HE.out, HB2.out⟩
  have t0 : ((n0 : Int) != L) = false := by rw [bne_eq_false_iff_eq]; exact hl0
  by_cases hl1 : (n1 : Int) = R
  case neg =>
    have t1 : ((n1 : Int) != R) = true := by rw [bne_iff_ne]; exact hl1
    have HE : Hid (false = v) := by show _ = _; rw [← HV.out]; exact (decide_eq_false (fun h => hl1 (by rw [← L1.out, ← HRR.out]; exact h.2.2.1))).symm
    clear hg hL hN hl0 hl1
    go_enter Tryd.func64, Tryd.ntmps64
    go_wp2_with fail
    refine wp_region_later (by kernel_rfl) (by kernel_rfl) ?_
    repeat (go_big_quiet_step (first | (go_at_call 35; exact Gives.later _ (specGeoOk_is _ _ _ _ _ KG.out _)) | (go_at_call 44; exact Gives.later _ (specLine_is _ _ _ _ _ HLN.out _)) | (go_at_call 12; exact Gives.later _ (specBank_is _ _ _ _ _ HBN.out _))))
    refine wpQuiet_nil ?_
    rintro w2 ⟨zz, hz⟩
    have hb2 : Below w1.heap.size w1 w2 := hz ▸ zz.ok
    have HB2 : Hid (Below w.heap.size w w2) := HB1.out.trans (hb2.mono HB1.out.size)
    clear hb2 hz zz zx0 zx1 zx2 zx3 zy0 zy1 zy2
    go_wp2_with fail
    go_ret
    exact ⟨ret_b HE.out, HB2.out⟩
  have t1 : ((n1 : Int) != R) = false := by rw [bne_eq_false_iff_eq]; exact hl1
  by_cases hl2 : n2 = n1
  case neg =>
    have t2 : ((n2 : Int) != (n1 : Int)) = true := by rw [bne_iff_ne]; omega
    have t2' : (n2 != n1) = true := by rw [bne_iff_ne]; exact hl2
    have HE : Hid (false = v) := by show _ = _; rw [← HV.out]; exact (decide_eq_false (fun h => hl2 (by rw [← L1.out, ← L2.out]; exact h.2.2.2.1))).symm
    clear hg hL hN hl0 hl1 hl2
    go_enter Tryd.func64, Tryd.ntmps64
    go_wp2_with fail
    refine wp_region_later (by kernel_rfl) (by kernel_rfl) ?_
    repeat (go_big_quiet_step (first | (go_at_call 35; exact Gives.later _ (specGeoOk_is _ _ _ _ _ KG.out _)) | (go_at_call 44; exact Gives.later _ (specLine_is _ _ _ _ _ HLN.out _)) | (go_at_call 12; exact Gives.later _ (specBank_is _ _ _ _ _ HBN.out _))))
    refine wpQuiet_nil ?_
    rintro w2 ⟨zz, hz⟩
    have hb2 : Below w1.heap.size w1 w2 := hz ▸ zz.ok
    have HB2 : Hid (Below w.heap.size w w2) := HB1.out.trans (hb2.mono HB1.out.size)
    clear hb2 hz zz zx0 zx1 zx2 zx3 zy0 zy1 zy2
    go_wp2_with fail
    go_ret
    exact ⟨ret_b HE.out, HB2.out⟩
  obtain rfl : n2 = n1 := hl2
  have t2 : ((n2 : Int) != (n2 : Int)) = false := by simp
  have t2' : (n2 != n2) = false := by simp
  have hn0 : (n0 : Int) ≤ 1024 := by have := (lineN_range ga gb gr gd).2; rw [hL] at this; omega
  have hn1 : (n2 : Int) ≤ 128 := by omega
  have HV2 : Hid (decide ((∀ c ∈ x, SymOk c.1 11) ∧ (∀ v ∈ y, AgeOk v) ∧ (∀ v ∈ z, AgeOk v)) = v) := by
    show _ = _
    rw [← HV.out]
    refine decide_eq_decide.2 ⟨fun h => ⟨hg, ?_, ?_, ?_, h⟩, fun h => h.2.2.2.2⟩
    · show (x.length : Int) = _; rw [L0.out, hl0, hL]
    · show (y.length : Int) = _; rw [L1.out, hl1, HRR.out]
    · show z.length = y.length; rw [L1.out, L2.out]
  clear hL hN hl0 hl1 hg HV hrr
  go_enter Tryd.func64, Tryd.ntmps64
  go_wp2_with fail
  refine wp_region_later (by kernel_rfl) (by kernel_rfl) ?_
  repeat (go_big_quiet_step (first | (go_at_call 35; exact Gives.later _ (specGeoOk_is _ _ _ _ _ KG.out _)) | (go_at_call 44; exact Gives.later _ (specLine_is _ _ _ _ _ HLN.out _)) | (go_at_call 12; exact Gives.later _ (specBank_is _ _ _ _ _ HBN.out _))))
  refine wpQuiet_nil ?_
  rintro w2 ⟨zz, hz⟩
  have hb2 : Below w1.heap.size w1 w2 := hz ▸ zz.ok
  have HB2 : Hid (Below w.heap.size w w2) := HB1.out.trans (hb2.mono HB1.out.size)
  have g2 := keep_block hb2 g1 (lt_of_block g1)
  have p2 := keep_block hb2 p1 (lt_of_block p1)
  have J0 : Hid (cellsK.rd w2 [.slice a0 n0 c0] x) := cellsK.below H0.out hb2
  have J1 : Hid (intsK.rd w2 [.slice a1 n2 c1] y) := intsK.below H1.out hb2
  have J2 : Hid (intsK.rd w2 [.slice a2 n2 c2] z) := intsK.below H2.out hb2
  clear hb2 hz zz zx0 zx1 zx2 zx3 zy0 zy1 zy2 x0 x1 x2 x3 y0 y1 y2 g1 p1 H0 H1 H2
  obtain ⟨y0, y1, y2⟩ := cells3 p2
  go_wp2_with fail
  go_loopw [5] (fun i wr => ∃ k : Nat, k ≤ n0 ∧ i = .int .i64 k ∧ (∀ c ∈ x.take k, SymOk c.1 11) ∧ wr = w2) (fun i _ => n0 + 1 - (intOf i).toNat)
  case atStart => exact ⟨0, Nat.zero_le _, rfl, by simp, by trivial⟩
  case round =>
    obtain ⟨k, hk, rfl, hall, rfl⟩ := hrel
    have HALL := Lib.hid hall
    clear hall
    by_cases hlt : k < n0
    case pos =>
      have hI : decide ((k : Int) < (n0 : Int)) = true := decide_eq_true (by omega)
      have wk : IntKind.i64.wrap ((k : Int) + 1) = (k : Int) + 1 := IntWalk.i64_in _ (by omega)
      have hkl : k < x.length := by rw [L0.out]; exact hlt
      obtain ⟨g, off, ds, rfl, hcell, hel⟩ := Kn.row_at J0.out hkl
      obtain ⟨xa, xn, xc, rfl, hs⟩ := cell_rd hel
      obtain ⟨q1, _, q3, _⟩ := Kn.row_len hs
      unfold maxLen at q3
      have b0 : wr.cell? ⟨g, off + k * 2, none⟩ = some (.slice xa xn xc) := hcell 0 (by decide)
      have HSR := Lib.hid (ints_row hs)
      have HQ := Lib.hid q1
      have HNX : Hid (SymOk x[k].1 11 → ∀ c ∈ x.take (k + 1), SymOk c.1 11) := fun h => all_take hkl HALL.out h
      have HNO : Hid (¬ SymOk x[k].1 11 → false = v) := fun h => by rw [← HV2.out]; exact (decide_eq_false (fun hh => h (hh.1 _ (List.getElem_mem _)))).symm
      generalize x[k].1 = s at HSR HQ HNX HNO
      have hxl : (xn : Int) ≤ 9223372036854775807 := by omega
      clear hcell hel hs q1
      by_cases hok : SymOk s 11
      case neg =>
        have KS := Lib.hid (decide_eq_false hok)
        have HE := Lib.hid (HNO.out hok)
        clear hok
        go_wp2_with fail
        refine (specSymbolsOk_is HQ.out HSR.out false KS.out hxl).mono ?_
        rintro e w3 ⟨rfl, rfl⟩
        go_wp2_with fail
        go_ret
        exact ⟨ret_b HE.out, HB2.out⟩
      have KS := Lib.hid (decide_eq_true hok)
      have HNX2 := Lib.hid (HNX.out hok)
      clear hok
      go_wp2_with fail
      refine (specSymbolsOk_is HQ.out HSR.out true KS.out hxl).mono ?_
      rintro e w3 ⟨rfl, rfl⟩
      go_wp2_with fail
      go_roundw
      case rel => exact ⟨k + 1, by omega, by go_num, HNX2.out, by trivial⟩
      case measure => simp [intOf]; omega
    obtain rfl : k = n0 := by omega
    have hI : decide ((k : Int) < (k : Int)) = false := decide_eq_false (by omega)
    have HX : Hid (∀ c ∈ x, SymOk c.1 11) := by
      have := HALL.out
      rw [List.take_of_length_le (by rw [L0.out]; exact Nat.le_refl _)] at this
      exact this
    clear HALL
    go_wp2_with fail
    go_loopw [6] (fun i wv => ∃ m : Nat, m ≤ n2 ∧ i = .int .i64 m ∧ (∀ v ∈ y.take m, AgeOk v) ∧ (∀ v ∈ z.take m, AgeOk v) ∧ wv = wr) (fun i _ => n2 + 1 - (intOf i).toNat)
    case atStart => exact ⟨0, Nat.zero_le _, rfl, by simp, by simp, by trivial⟩
    case round =>
      obtain ⟨m, hm, rfl, hy, hz, rfl⟩ := hrel
      have HY := Lib.hid hy
      have HZ := Lib.hid hz
      clear hy hz
      by_cases hlt : m < n2
      case neg =>
        obtain rfl : m = n2 := by omega
        have hI : decide ((m : Int) < (m : Int)) = false := decide_eq_false (by omega)
        have HE : Hid (true = v) := by
          show _ = _
          rw [← HV2.out]
          refine (decide_eq_true ⟨HX.out, ?_, ?_⟩).symm
          · have := HY.out
            rw [List.take_of_length_le (by rw [L1.out]; exact Nat.le_refl _)] at this
            exact this
          · have := HZ.out
            rw [List.take_of_length_le (by rw [L2.out]; exact Nat.le_refl _)] at this
            exact this
        go_wp2_with fail
        go_ret
        exact ⟨ret_b HE.out, HB2.out⟩
      have hI : decide ((m : Int) < (n2 : Int)) = true := decide_eq_true (by omega)
      have wm : IntKind.i64.wrap ((m : Int) + 1) = (m : Int) + 1 := IntWalk.i64_in _ (by omega)
      have hmy : m < y.length := by rw [L1.out]; exact hlt
      have hmz : m < z.length := by rw [L2.out]; exact hlt
      obtain ⟨gy, oy, rfl, cy⟩ := (ints_row J1.out).at hmy
      obtain ⟨gz, oz, rfl, cz⟩ := (ints_row J2.out).at hmz
      have ey : y.getD m 0 = y[m] := by rw [List.getD_eq_getElem?_getD, List.getElem?_eq_getElem hmy]; rfl
      have ez : z.getD m 0 = z[m] := by rw [List.getD_eq_getElem?_getD, List.getElem?_eq_getElem hmz]; rfl
      rw [ey] at cy
      rw [ez] at cz
      have HNX : Hid (AgeOk y[m] → AgeOk z[m] → (∀ v ∈ y.take (m + 1), AgeOk v) ∧ (∀ v ∈ z.take (m + 1), AgeOk v)) := fun h1 h2 => ⟨all_take hmy HY.out h1, all_take hmz HZ.out h2⟩
      have HNO1 : Hid (¬ AgeOk y[m] → false = v) := fun h => by rw [← HV2.out]; exact (decide_eq_false (fun hh => h (hh.2.1 _ (List.getElem_mem _)))).symm
      have HNO2 : Hid (¬ AgeOk z[m] → false = v) := fun h => by rw [← HV2.out]; exact (decide_eq_false (fun hh => h (hh.2.2 _ (List.getElem_mem _)))).symm
      generalize y[m] = u1 at cy HNX HNO1
      generalize z[m] = u2 at cz HNX HNO2
      clear ey ez
      by_cases h1 : AgeOk u1
      case neg =>
        have K1 : Hid (decide (0 ≤ u1 ∧ u1 ≤ 100000) = false) := decide_eq_false h1
        have HE := Lib.hid (HNO1.out h1)
        clear h1
        go_wp2_with fail
        refine (specIn_is u1 0 100000 false K1.out _).mono ?_
        rintro e w3 ⟨rfl, rfl⟩
        go_wp2_with fail
        go_ret
        exact ⟨ret_b HE.out, HB2.out⟩
      have K1 : Hid (decide (0 ≤ u1 ∧ u1 ≤ 100000) = true) := decide_eq_true h1
      by_cases h2 : AgeOk u2
      case neg =>
        have K2 : Hid (decide (0 ≤ u2 ∧ u2 ≤ 100000) = false) := decide_eq_false h2
        have HE := Lib.hid (HNO2.out h2)
        clear h1 h2
        go_wp2_with fail
        refine (specIn_is u1 0 100000 true K1.out _).mono ?_
        rintro e w3 ⟨rfl, rfl⟩
        go_wp2_with fail
        refine (specIn_is u2 0 100000 false K2.out _).mono ?_
        rintro e w4 ⟨rfl, rfl⟩
        go_wp2_with fail
        go_ret
        exact ⟨ret_b HE.out, HB2.out⟩
      have K2 : Hid (decide (0 ≤ u2 ∧ u2 ≤ 100000) = true) := decide_eq_true h2
      have HNX2 := Lib.hid (HNX.out h1 h2)
      clear h1 h2
      go_wp2_with fail
      refine (specIn_is u1 0 100000 true K1.out _).mono ?_
      rintro e w3 ⟨rfl, rfl⟩
      go_wp2_with fail
      refine (specIn_is u2 0 100000 true K2.out _).mono ?_
      rintro e w4 ⟨rfl, rfl⟩
      go_wp2_with fail
      go_roundw
      case rel => exact ⟨m + 1, by omega, by go_num, HNX2.out.1, HNX2.out.2, by trivial⟩
      case measure => simp [intOf]; omega

end Go.Proofs.YtfpfgaifhmgpiaaDoor

namespace Go.Proofs.YtfpfgaifhmgpiaaDoor
open Go.RowKit Go.PlainAid

set_option linter.unusedVariables false

theorem run_append_empty {P : Program} (w : World) (base : Nat) (t ty e : TypeId) (i : TypeInfo) (z : Value) (size bytes : Nat) (ht : P.underlying t = some (.slice e)) (hi : P.info? e = some i) (hz : i.zero = some z)
    (hsize : i.size = size) (hby : i.bytes = bytes) (hzs : z.cells.size = size) (hsz : 0 < size)
    (g : Nat) (hbg : base ≤ g) (hg : w.heap[g]? = some (.cells #[] e (0, 0)))
    (a : Addr) (m c : Nat) (news : List Value) (hl : news.length = m * size) (hnews : ∀ j u, news[j]? = some u → w.cell? (a.add j) = some u) (h1 : ∀ u ∈ news, u.oneCell' = true)
    (h63 : m ≤ maxLen) (hbytes : m * bytes ≤ 140737488355328) (hbase : base ≤ w.heap.size) :
    ∃ v' w', (Builtin.append_ #[t, t] ty #[.slice (some ⟨g, 0, none⟩) 0 0, .slice (some a) m c]).run P w = .ok v' w' ∧ w'.ownsRow base e size v' m news ∧ Below w.heap.size w w' ∧
      ((v'.ownBlock = some g ∧ m = 0) ∨ v'.ownBlock = some w.heap.size) := by
  have hown : w.ownsRow base e size (.slice (some ⟨g, 0, none⟩) 0 0) 0 [] := ⟨by simp, .inr ⟨g, 0, #[], rfl, hbg, hg, Nat.le_refl _, Nat.zero_le _, by simp, by simp⟩⟩
  obtain ⟨v', w', hr, h2, h3, h4, h5⟩ := run_append_own_at (P := P) w base t ty e i z size bytes ht hi hz hsize hby hzs hsz _ 0 [] hown a m c news hl hnews h1 (by omega) (by simpa using hbytes) hbase
  rw [Nat.zero_add, List.nil_append] at h2
  subst hsize
  subst hby
  by_cases hm : m = 0
  · refine ⟨v', w', hr, h2, ?_, h5.imp (fun h => ⟨h, hm⟩) id⟩
    subst hm
    have hn : news = [] := List.eq_nil_of_length_eq_zero (by simpa using hl)
    subst hn
    have hr2 := run_append_room (P := P) w t ty e i ht hi g 0 0 #[] hg a 0 c [] (by simp) (by intro j u hu; simp at hu) (by intro u hu; cases hu) (Nat.le_refl _) (by simp)
    rw [hr] at hr2
    injection hr2 with e1 e2
    subst e2
    refine ⟨rfl, rfl, rfl, by simp [World.setRow], fun k hk => ?_⟩
    by_cases hkg : k = g
    · subst hkg
      rw [setRow_heap w k #[] _ e _ hg, hg]
      simp
    · exact setRow_other w g k _ hkg
  · have hsmall : m ≤ 9223372036854775807 := by simp only [maxLen] at h63; omega
    have hr2 := run_append_grow (P := P) w t ty e i z ht hi hz ⟨g, 0, none⟩ 0 0 [] (by simp) (by intro j u hu; simp at hu) a m c news hl hnews (by omega) (by omega) (growslice_fits (by omega) (by simpa using hbytes))
    rw [hr] at hr2
    injection hr2 with e1 e2
    subst e2
    subst e1
    exact ⟨_, _, hr, h2, ⟨rfl, rfl, rfl, by simp, fun k hk => Below.heap_alloc w.drew _ k hk⟩, .inr rfl⟩

/-- Such a copy of a row of ints. -/
theorem copy_ints {ops : Array Oper} {rest : List Oper} {o : Oper} {a : Act} {w : World} {Q : Exit → Act → World → Prop} (hgd : o.guard = none) (s x : Operand) (ho : o.op = .call { callee := .builtin .append, args := #[s, x], argTypes := #[29, 29] })
    (base g : Nat) (hs : a.eval s = .slice (some ⟨g, 0, none⟩) 0 0) (hbg : base ≤ g) (hg : w.heap[g]? = some (.cells #[] 3 (0, 0))) (ad : Option Addr) (m c : Nat) (l : List Int) (hx : a.eval x = .slice ad m c) (hrow : intsK.rd w [.slice ad m c] l) (hbig : l.length ≤ 4000000) (hbase : base ≤ w.heap.size)
    (h : ∀ ab cb w' S, intsK.own w' S [.slice ab m cb] l → (∀ b ∈ S, b = w.heap.size) → Below w.heap.size w w' → wpList Tryd.prog ops Q rest (a.put o.dst (.slice ab m cb)) w') : wpList Tryd.prog ops Q (o :: rest) a w := by
  obtain ⟨i0, hi, hz0, hz1, hz2⟩ := info_parts infoI
  obtain ⟨hl, hmc, hmm, hnc⟩ := Kn.row_len hrow
  have hfin : ∀ v' w', w'.ownsRow base 3 1 v' m (l.map (Value.int .i64)) → ((v'.ownBlock = some g ∧ m = 0) ∨ v'.ownBlock = some w.heap.size) → ∃ ab cb S, v' = .slice ab m cb ∧ intsK.own w' S [.slice ab m cb] l ∧ (∀ b ∈ S, b = w.heap.size) := by
    intro v' w' h2 h3
    have hO : OwnI base v' l w' := by unfold OwnI; rw [hl]; exact h2
    obtain ⟨ab, cb, hv⟩ := hO.shape
    subst hv
    have hcb : l.length ≤ cb := by
      rcases hO.2 with ⟨hv, h0⟩ | ⟨g', cap, cur, hv, _, _, h4, _⟩
      · simp only [Value.slice.injEq] at hv; omega
      · simp only [Value.slice.injEq] at hv; omega
    obtain ⟨S, ho, hS⟩ := ints_of_own (OwnI.toJ rfl hO) hcb (by omega)
    rw [hl] at ho
    refine ⟨ab, cb, S, by rw [hl], ho, fun b hb => ?_⟩
    rcases hS with ⟨_, e⟩ | ⟨h0, g', off, ea, e, _⟩
    · rw [e] at hb; cases hb
    · rcases h3 with ⟨_, h3⟩ | h3
      · exact absurd (List.length_eq_zero_iff.1 (by omega)) h0
      · rw [e] at hb
        rw [List.mem_singleton.1 hb]
        rw [ea] at h3
        exact Option.some.inj h3
  cases ad with
  | none =>
    obtain rfl : c = 0 := hnc rfl
    obtain rfl : m = 0 := by omega
    have hl0 : l = [] := List.length_eq_zero_iff.1 hl
    subst hl0
    have hown : w.ownsRow base 3 1 (.slice (some ⟨g, 0, none⟩) 0 0) 0 [] := ⟨by simp, .inr ⟨g, 0, #[], rfl, hbg, hg, Nat.le_refl _, Nat.zero_le _, by simp, by simp⟩⟩
    obtain ⟨ab, cb, S, e, h1, h2⟩ := hfin _ w hown (.inl ⟨rfl, rfl⟩)
    refine wpList_append_own_none hgd s x 29 ho base 3 i0 1 Tryd.underlying29 hi _ 0 _ hs hown hx ?_
    rw [e]
    exact h ab cb w S h1 h2 (Below.refl _ _)
  | some ad =>
    have hfl : (l.map (Value.int .i64)).length = m * 1 := by rw [List.length_map, hl, Nat.mul_one]
    refine wpList_plain hgd fun K hK => ?_
    obtain ⟨v', w', hr, h2, h3, h4⟩ := run_append_empty (P := Tryd.prog) w base 29 o.type 3 i0 (.int .i64 0) 1 8 Tryd.underlying29 hi hz0 hz1 hz2 rfl (by decide) g hbg hg ad m c (l.map (Value.int .i64)) hfl (RowI.src (ints_row hrow)) (fun u hu => by obtain ⟨z, _, rfl⟩ := List.mem_map.1 hu; rfl) hmm (by omega) hbase
    obtain ⟨ab, cb, S, e, k1, k2⟩ := hfin v' w' h2 h4
    subst e
    unfold Oper.wp execOp
    simp only [ho, resolve, invoke, builtin, Sem.run_bind, Sem.run_pure, Result.andThen_ok, List.map_toArray, List.map_cons, List.map_nil, hs, hx, hr]
    exact hK _ _ (h ab cb w' S k1 k2 h3)

end Go.Proofs.YtfpfgaifhmgpiaaDoor

namespace Go.Proofs.YtfpfgaifhmgpiaaDoor
open Go.RowKit Go.PlainAid

set_option linter.unusedVariables false

set_option maxHeartbeats 4000000 in
theorem specCell_k {a : Option Addr} {n c : Nat} {s : List Int} {p : Bool} {w : World} (h : intsK.rd w [.slice a n c] s) (hl : s.length ≤ 4000000) :
    Calls Tryd.prog 95 #[.agg #[.slice a n c, .bool p]] w (GivesS cellK (s, p) w) := by
  obtain ⟨w1, hw1⟩ : ∃ u, (w.alloc (.cells #[.slice a n c, .bool p] 41)).alloc (.cells #[.slice none 0 0, .bool false] 41) = u := ⟨_, rfl⟩
  have HB1 : Hid (Below w.heap.size w w1) := by subst hw1; exact ((Below.refl _ _).alloc (Nat.le_refl _) _).alloc (by simp) _
  have p1 : w1.heap[w.heap.size]? = some (.cells #[.slice a n c, .bool p] 41) := by subst hw1; exact heap_alloc2_old _ _ _
  have r1 : w1.heap[w.heap.size + 1]? = some (.cells #[.slice none 0 0, .bool false] 41) := by subst hw1; exact heap_alloc2_new _ _ _
  have HS1 : Hid (w.heap.size + 1 < w1.heap.size) := lt_of_block r1
  have hbA : Below w1.heap.size w1 (w1.alloc (.cells #[] 3)) := (Below.refl _ _).alloc (Nat.le_refl _) _
  have p2 := keep_block hbA p1 (lt_of_block p1)
  have r2 := keep_block hbA r1 (lt_of_block r1)
  have HR : Hid (intsK.rd (w1.alloc (.cells #[] 3)) [.slice a n c] s) := intsK.below (intsK.below h HB1.out) hbA
  have hgA : (w1.alloc (.cells #[] 3)).heap[w1.heap.size]? = some (.cells #[] 3 (0, 0)) := heap_alloc_new _ _
  have hSA : w1.heap.size ≤ (w1.alloc (.cells #[] 3)).heap.size := by simp
  obtain ⟨d0, d1⟩ := cells2 p2
  clear h
  go_enter Tryd.func95, Tryd.ntmps95
  go_wp2_with (at_builtin; refine copy_ints rfl _ _ rfl w1.heap.size w1.heap.size rfl (Nat.le_refl _) hgA a n c s rfl HR.out hl hSA ?_)
  intro ab cb w3 S own3 hS3 hb3
  have p3 := keep_block hb3 p2 (by simpa using lt_of_block p2)
  have r3 := keep_block hb3 r2 (by simpa using lt_of_block r2)
  have HB3 : Hid (Below w.heap.size w w3) := (HB1.out.trans (hbA.mono HB1.out.size)).trans (hb3.mono (by have := HB1.out.size; omega))
  have HSB : Hid (∀ b ∈ S, w1.heap.size ≤ b) := fun b hb => by
    have := hS3 b hb
    omega
  have HO3 := Lib.hid own3
  have f0 := thawed p3 0
  have o4 := set_cells p3 0 (.slice ab n cb)
  have r4 := (Below.heap_setCell w3 ⟨w.heap.size, 0, none⟩ (.slice ab n cb) (w.heap.size + 1) (by simp)).trans r3
  obtain ⟨e0, e1⟩ := cells2 p3
  obtain ⟨x0, x1⟩ := cells2 o4
  obtain ⟨y0, y1⟩ := cells2 r4
  have g0 := thawed r4 0
  have g1 := thawed r4 1
  clear own3 hb3 hS3 hbA hgA hSA d0 d1 p2 r2 p1 r1
  go_wp2_with fail
  (try simp only [Exit.inBlock, Exit.then])
  have hs1 := HS1.out
  have q0 : ∀ b ∈ S, b ≠ w.heap.size ∧ b ≠ w.heap.size + 1 := fun b hb => by have := HSB.out b hb; omega
  refine bodyPost_ret (v := .agg #[.slice ab n cb, .bool p]) ?_ rfl ⟨[.slice ab n cb, .bool p], S, rfl, cell_of p ?_, fun b hb => ?_, ?_⟩
  · simp [results, Tryd.results95, go_sem, y0, y1]
  · exact intsK.ownSet (intsK.ownSet (intsK.ownSet HO3.out (fun b hb => (q0 b hb).1) _) (fun b hb => (q0 b hb).2) _) (fun b hb => (q0 b hb).2) _
  · have := HSB.out b hb; omega
  · exact ((HB3.out.setCell (by simp) _).setCell (by simp) _).setCell (by simp) _

end Go.Proofs.YtfpfgaifhmgpiaaDoor

namespace Go.Proofs.YtfpfgaifhmgpiaaDoor
open Go.RowKit Go.PlainAid

set_option linter.unusedVariables false

theorem ints_ne {w : World} {S : List Nat} {a : Option Addr} {n c : Nat} {l : List Int} {g : Nat} {vs : Array Value} {T : TypeId} {fr : Nat × Nat} (h : intsK.own w S [.slice a n c] l) (hg : w.heap[g]? = some (.cells vs T fr)) (hT : T ≠ 3) : g ∉ S := by
  obtain ⟨a', n', c', xs, S', e, h1, h2, h3, h4, h5⟩ := h
  have hS := intK_owns_nil h3
  subst hS
  rcases h5 with ⟨_, _, h5⟩ | ⟨g', off, cur, _, hh, _, h5⟩
  · rw [h5]; exact List.not_mem_nil
  · rw [h5]
    intro hm
    rw [← List.mem_singleton.1 hm, hg] at hh
    injection hh with hh
    injection hh with _ e2
    exact hT e2

/-- A row of the call's own. -/
def RowF (B n : Nat) (l : List Int) (q : Value) (u : World) : Prop := ∃ ab cb S, q = .slice ab n cb ∧ intsK.own u S [.slice ab n cb] l ∧ ∀ b ∈ S, B ≤ b

theorem RowF.below {B n : Nat} {l : List Int} {q : Value} {u u' : World} (h : RowF B n l q u) (hb : Below u.heap.size u u') : RowF B n l q u' := by
  obtain ⟨ab, cb, S, e, o, k⟩ := h
  exact ⟨ab, cb, S, e, intsK.ownBelow o hb, k⟩

/-- An array without cells whose rows are the call's own. -/
def BothF (B n1 n2 : Nat) (y z : List Int) (q : Value) (u : World) : Prop := ∃ ab cb S ac cc T, q = .agg #[.slice none 0 0, .slice ab n1 cb, .slice ac n2 cc] ∧ intsK.own u S [.slice ab n1 cb] y ∧ intsK.own u T [.slice ac n2 cc] z ∧ (S ++ T).Nodup ∧ ∀ b ∈ S ++ T, B ≤ b

theorem BothF.below {B n1 n2 : Nat} {y z : List Int} {q : Value} {u u' : World} (h : BothF B n1 n2 y z q u) (hb : Below u.heap.size u u') : BothF B n1 n2 y z q u' := by
  obtain ⟨ab, cb, S, ac, cc, T, e, o1, o2, k⟩ := h
  exact ⟨ab, cb, S, ac, cc, T, e, intsK.ownBelow o1 hb, intsK.ownBelow o2 hb, k⟩

/-- A variable that holds such an array. -/
def PhiA (B n1 n2 : Nat) (y z : List Int) (g : Nat) (u : World) : Prop := ∃ ab cb S ac cc T, u.heap[g]? = some (.cells #[.slice none 0 0, .slice ab n1 cb, .slice ac n2 cc] 31 (0, 0)) ∧ intsK.own u S [.slice ab n1 cb] y ∧ intsK.own u T [.slice ac n2 cc] z ∧ (S ++ T).Nodup ∧ (∀ b ∈ S ++ T, B ≤ b) ∧ g ∉ S ++ T

theorem PhiA.below {B n1 n2 : Nat} {y z : List Int} {g : Nat} {u u' : World} (h : PhiA B n1 n2 y z g u) (hb : Below u.heap.size u u') : PhiA B n1 n2 y z g u' := by
  obtain ⟨ab, cb, S, ac, cc, T, e, o1, o2, k⟩ := h
  exact ⟨ab, cb, S, ac, cc, T, keep_block hb e (lt_of_block e), intsK.ownBelow o1 hb, intsK.ownBelow o2 hb, k⟩

theorem ownsRow_below {w w' : World} {B n K : Nat} {T : TypeId} {v : Value} {xs : List Value} (h : w.ownsRow B T K v n xs) (hb : Below w.heap.size w w') : w'.ownsRow B T K v n xs := by
  refine ⟨h.1, ?_⟩
  rcases h.2 with hv | ⟨b, cap, cur, hv, hB, hh, r⟩
  · exact .inl hv
  · exact .inr ⟨b, cap, cur, hv, hB, by rw [hb.block b (lt_of_block hh)]; exact hh, r⟩

/-- A cell of an older block is written. -/
theorem Kn.Bld.setCell {α : Type} {k : Kn α} {T : TypeId} {B : Nat} {w : World} {S : List Nat} {v : Value} {l : List α} (h : k.Bld T B w S v l) {p : Addr} (hp : p.block < B) (q : Value) : k.Bld T B (w.setCell p q) S v l := by
  obtain ⟨xs, h1, h2, h3, h4, h5⟩ := h
  refine ⟨xs, ⟨h1.1, ?_⟩, k.owns_same h2 (fun b hm => Below.heap_setCell _ _ _ _ (by have := h4 b hm; omega)), h3, h4, h5⟩
  rcases h1.2 with hv | ⟨b, cap, cur, hv, hB, hh, r⟩
  · exact .inl hv
  · exact .inr ⟨b, cap, cur, hv, hB, (Below.heap_setCell _ _ _ _ (by omega)).trans hh, r⟩

/-- Two rows that operations 3 and 7 answered, till operation 8. -/
def Pair37 (n1 n2 : Nat) (y z : List Int) (base : Nat) (listed : Array Bool) (x : Nat → Value) (u : World) : Prop := listed.getD 7 false = true → listed.getD 8 false = false → ∃ ab cb S ac cc T, x 3 = .slice ab n1 cb ∧ x 7 = .slice ac n2 cc ∧ intsK.own u S [.slice ab n1 cb] y ∧ intsK.own u T [.slice ac n2 cc] z ∧ (S ++ T).Nodup ∧ ∀ b ∈ S ++ T, base ≤ b

theorem Pair37.zero (n1 n2 : Nat) (y z : List Int) (base n : Nat) (x : Nat → Value) (u : World) : Pair37 n1 n2 y z base (Array.replicate n false) x u := fun h => by rw [getD_replicate_false] at h; cases h

theorem Pair37.keep {n1 n2 : Nat} {y z : List Int} {base : Nat} {listed : Array Bool} {x : Nat → Value} {u u' : World} (h : Pair37 n1 n2 y z base listed x u) {k : Nat} (h3 : k ≠ 3) (h7 : k ≠ 7) (h8 : k ≠ 8) (v : Value) (hb : Below u.heap.size u u') : Pair37 n1 n2 y z base (listed.setIfInBounds k true) (upd x k v) u' := fun h1 h2 => by
  rw [getD_set_ne false h7] at h1
  rw [getD_set_ne false h8] at h2
  rw [upd_other _ _ (Ne.symm h3), upd_other _ _ (Ne.symm h7)]
  obtain ⟨ab, cb, S, ac, cc, T, e1, e2, o1, o2, r⟩ := h h1 h2
  exact ⟨ab, cb, S, ac, cc, T, e1, e2, intsK.ownBelow o1 hb, intsK.ownBelow o2 hb, r⟩

theorem Pair37.no {n1 n2 : Nat} {y z : List Int} {base : Nat} {listed : Array Bool} {x : Nat → Value} {u : World} (h : listed.getD 7 false = false) {k : Nat} (h7 : k ≠ 7) (v : Value) : Pair37 n1 n2 y z base (listed.setIfInBounds k true) (upd x k v) u := fun h1 _ => by
  rw [getD_set_ne false h7, h] at h1; cases h1

theorem Pair37.new {n1 n2 : Nat} {y z : List Int} {base : Nat} {listed : Array Bool} {x : Nat → Value} {u : World} {v : Value} (h : ∃ ab cb S ac cc T, x 3 = .slice ab n1 cb ∧ v = .slice ac n2 cc ∧ intsK.own u S [.slice ab n1 cb] y ∧ intsK.own u T [.slice ac n2 cc] z ∧ (S ++ T).Nodup ∧ ∀ b ∈ S ++ T, base ≤ b) : Pair37 n1 n2 y z base (listed.setIfInBounds 7 true) (upd x 7 v) u := fun _ _ => by
  rw [upd_other _ _ (by decide), upd_same]
  exact h

theorem Pair37.gone {n1 n2 : Nat} {y z : List Int} {base : Nat} {listed : Array Bool} {x : Nat → Value} {u : World} (h : 8 < listed.size) : Pair37 n1 n2 y z base (listed.setIfInBounds 8 true) x u := fun _ h2 => by rw [get_set_same false h] at h2; cases h2

theorem Pair37.goneL {n1 n2 : Nat} {y z : List Int} {base : Nat} {listed : Array Bool} {x : Nat → Value} {u : World} (h : listed.getD 8 false = true) {k : Nat} : Pair37 n1 n2 y z base (listed.setIfInBounds k true) x u := fun _ h2 => by rw [getD_set_true h] at h2; cases h2

/-- A variable made by operation s, filled by t: zero till then, what Φ says behind it. -/
def MadeG (s t base : Nat) (T : TypeId) (zc : Array Value) (Φ : Nat → World → Prop) (listed : Array Bool) (x : Nat → Value) (u : World) : Prop :=
  (listed.getD t false = true → listed.getD s false = true) ∧
  (listed.getD s false = true → ∃ g, x s = .pointer (some ⟨g, 0, none⟩) ∧ base ≤ g ∧ (listed.getD t false = false → u.heap[g]? = some (.cells zc T (0, 0))) ∧ (listed.getD t false = true → Φ g u))

theorem MadeG.zero (s t base : Nat) (T : TypeId) (zc : Array Value) (Φ : Nat → World → Prop) (n : Nat) (x : Nat → Value) (u : World) : MadeG s t base T zc Φ (Array.replicate n false) x u :=
  ⟨fun h => (by rw [getD_replicate_false] at h; cases h), fun h => by rw [getD_replicate_false] at h; cases h⟩

theorem MadeG.keep {s t base : Nat} {T : TypeId} {zc : Array Value} {Φ : Nat → World → Prop} {listed : Array Bool} {x : Nat → Value} {u u' : World} (h : MadeG s t base T zc Φ listed x u) {i : Nat} (hs : i ≠ s) (ht : i ≠ t) (v : Value) (hΦ : ∀ g, Φ g u → Φ g u') (hb : Below u.heap.size u u') : MadeG s t base T zc Φ (listed.setIfInBounds i true) (upd x i v) u' := by
  refine ⟨fun h1 => ?_, fun h1 => ?_⟩
  · rw [getD_set_ne false ht] at h1
    exact getD_set_true (h.1 h1)
  · rw [getD_set_ne false hs] at h1
    rw [getD_set_ne false ht]
    obtain ⟨g, e, hg, hz, hf⟩ := h.2 h1
    exact ⟨g, by rw [upd_other _ _ (Ne.symm hs)]; exact e, hg, fun h0 => keep_block hb (hz h0) (lt_of_block (hz h0)), fun h0 => hΦ g (hf h0)⟩

theorem MadeG.new {s t base : Nat} {T : TypeId} {zc : Array Value} {Φ : Nat → World → Prop} {listed : Array Bool} {x : Nat → Value} {u : World} (h : MadeG s t base T zc Φ listed x u) (hst : s ≠ t) (hs : listed.getD s false = false) (hb : base ≤ u.heap.size) :
    MadeG s t base T zc Φ (listed.setIfInBounds s true) (upd x s (.pointer (some ⟨u.heap.size, 0, none⟩))) (u.alloc (.cells zc T)) := by
  have ht : listed.getD t false = false := by
    cases e : listed.getD t false with
    | false => rfl
    | true => have := h.1 e; rw [hs] at this; cases this
  refine ⟨fun h1 => ?_, fun h1 => ?_⟩
  · rw [getD_set_ne false hst, ht] at h1; cases h1
  · rw [getD_set_ne false hst, ht]
    exact ⟨_, upd_same _ _ _, hb, fun _ => heap_alloc_new _ _, fun h0 => by cases h0⟩

theorem MadeG.there {s t base : Nat} {T : TypeId} {zc : Array Value} {Φ : Nat → World → Prop} {listed : Array Bool} {x : Nat → Value} {u : World} (h : MadeG s t base T zc Φ listed x u) (hs : listed.getD s false = true) (ht : listed.getD t false = false) :
    ∃ g, x s = .pointer (some ⟨g, 0, none⟩) ∧ base ≤ g ∧ u.heap[g]? = some (.cells zc T (0, 0)) := by
  obtain ⟨g, e, hg, hz, _⟩ := h.2 hs
  exact ⟨g, e, hg, hz ht⟩

theorem MadeG.fill {s t base : Nat} {T : TypeId} {zc : Array Value} {Φ : Nat → World → Prop} {listed : Array Bool} {x : Nat → Value} {u' : World} {g : Nat} {v : Value} (hst : s ≠ t) (hs : listed.getD s false = true) (ht : t < listed.size) (hx : x s = .pointer (some ⟨g, 0, none⟩)) (hg : base ≤ g) (hΦ : Φ g u') :
    MadeG s t base T zc Φ (listed.setIfInBounds t true) (upd x t v) u' := by
  refine ⟨fun _ => getD_set_true hs, fun _ => ⟨g, by rw [upd_other _ _ hst]; exact hx, hg, fun h0 => ?_, fun _ => hΦ⟩⟩
  rw [get_set_same false ht] at h0
  cases h0

set_option maxHeartbeats 16000000 in
set_option maxRecDepth 100000 in
theorem specCopyA_is {cs : List Value} {x : Arr} {w : World} (h : arrK.rd w cs x) (hl : x.1.length ≤ 3000000) (hs : ∀ c ∈ x.1, c.1.length ≤ 4000000) (hl1 : x.2.1.length ≤ 4000000) (hl2 : x.2.2.length ≤ 4000000) :
    Calls Tryd.prog 63 #[.agg cs.toArray] w (GivesS arrK x w) := by
  obtain ⟨a0, n0, c0, a1, n1, c1, a2, n2, c2, rfl, h0, h1, h2⟩ := arr_rd h
  obtain ⟨x', y, z⟩ := x
  obtain ⟨w1, hw1⟩ : ∃ u, (w.alloc (.cells #[.slice a0 n0 c0, .slice a1 n1 c1, .slice a2 n2 c2] 31)).alloc (.cells #[.slice none 0 0, .slice none 0 0, .slice none 0 0] 31) = u := ⟨_, rfl⟩
  have HB1 : Hid (Below w.heap.size w w1) := by subst hw1; exact ((Below.refl _ _).alloc (Nat.le_refl _) _).alloc (by simp) _
  have p1 : w1.heap[w.heap.size]? = some (.cells #[.slice a0 n0 c0, .slice a1 n1 c1, .slice a2 n2 c2] 31) := by subst hw1; exact heap_alloc2_old _ _ _
  have r1 : w1.heap[w.heap.size + 1]? = some (.cells #[.slice none 0 0, .slice none 0 0, .slice none 0 0] 31) := by subst hw1; exact heap_alloc2_new _ _ _
  have HS1 : Hid (w.heap.size + 1 < w1.heap.size) := lt_of_block r1
  have H0 : Hid (cellsK.rd w1 [.slice a0 n0 c0] x') := cellsK.below h0 HB1.out
  have HW0 := Lib.hid h0
  have HR1 : Hid (intsK.rd w1 [.slice a1 n1 c1] y) := intsK.below h1 HB1.out
  have HR2 : Hid (intsK.rd w1 [.slice a2 n2 c2] z) := intsK.below h2 HB1.out
  have HSS : Hid (∀ c ∈ x', c.1.length ≤ 4000000) := hs
  have hl0' : x'.length ≤ 3000000 := hl
  have hl1' : y.length ≤ 4000000 := hl1
  have hl2' : z.length ≤ 4000000 := hl2
  clear h h0 h1 h2 hs hl hl1 hl2
  have hl1 := hl1'
  have hl2 := hl2'
  clear hl1' hl2'
  go_enter Tryd.func63, Tryd.ntmps63
  go_wp2_with fail
  refine wp_region_flowV (fun k => match k with | 1 => some (.pointer (some ⟨w.heap.size, 1, none⟩)) | 2 => some (.slice a1 n1 c1) | 5 => some (.pointer (some ⟨w.heap.size, 2, none⟩)) | 6 => some (.slice a2 n2 c2) | _ => none) (fun listed x u => FactW 0 3 (fun q u => ∃ bn, q = .slice (some ⟨bn, 0, none⟩) 0 0 ∧ w1.heap.size ≤ bn ∧ u.heap[bn]? = some (.cells #[] 3 (0, 0))) listed x u ∧ FactW 3 8 (fun q u => RowF w1.heap.size n1 y q u) listed x u ∧ FactW 4 7 (fun q u => ∃ bn, q = .slice (some ⟨bn, 0, none⟩) 0 0 ∧ w1.heap.size ≤ bn ∧ u.heap[bn]? = some (.cells #[] 3 (0, 0))) listed x u ∧ FactW 8 10 (fun q u => BothF w1.heap.size n1 n2 y z q u) listed x u ∧ Pair37 n1 n2 y z w1.heap.size listed x u ∧ Aft 7 3 listed ∧ Aft 8 7 listed ∧ Aft 10 8 listed ∧ MadeG 9 10 w1.heap.size 31 #[.slice none 0 0, .slice none 0 0, .slice none 0 0] (fun g u => PhiA w1.heap.size n1 n2 y z g u) listed x u) (fun _ => undef) (by kernel_rfl) (by kernel_rfl) ?hx ?hS ?hs ?he
  case hx => simp only [putsX, Act.put, List.setIfInBounds_toArray, List.set_cons_zero, List.set_cons_succ]
  case hS => exact ⟨FactW.zero _ _ _ _ _ _, FactW.zero _ _ _ _ _ _, FactW.zero _ _ _ _ _ _, FactW.zero _ _ _ _ _ _, Pair37.zero _ _ _ _ _ _ _ _, Aft.zero _ _ _, Aft.zero _ _ _, Aft.zero _ _ _, MadeG.zero _ _ _ _ _ _ _ _ _⟩
  case hs =>
    simp only [flowSteps]
    refine ⟨?s_0, ?s_1, ?s_2, ?s_3, ?s_4, ?s_5, ?s_6, ?s_7, ?s_8, ?s_9, ?s_10, trivial⟩
    case s_0 =>
      intro listed bb u hsz hn hwt hinv
      obtain ⟨x, rfl, hC, hU, h0, h3, h4, h8, h37, hA73, hA87, hA109, hM⟩ := hinv
      simp only [putsX, Act.put, List.setIfInBounds_toArray, List.set_cons_zero, List.set_cons_succ]
      go_wp2_with fail
      refine stepQ_normal ⟨trivial, upd x 0 (.slice (some ⟨u.heap.size, 0, none⟩) 0 0), ?_, hC.alloc hC.size _, hU.step (fun _ h => by cases h), FactW.new ⟨_, rfl, hC.size, heap_alloc_new _ _⟩, h3.keep (by decide) (by decide) _ (fun h => h.below (below_allocI _)), h4.keep (by decide) (by decide) _ (fun ⟨b1, b2, b3, b4⟩ => ⟨b1, b2, b3, keep_block (below_allocI _) b4 (lt_of_block b4)⟩), h8.keep (by decide) (by decide) _ (fun h => h.below (below_allocI _)), h37.keep (by decide) (by decide) (by decide) _ (below_allocI _), hA73.keep (by decide), hA87.keep (by decide), hA109.keep (by decide), hM.keep (by decide) (by decide) _ (fun g h => h.below (below_allocI _)) (below_allocI _)⟩
      simp only [upd]
      rfl
    case s_1 =>
      intro listed bb u hsz hn hwt hinv
      obtain ⟨x, rfl, hC, hU, h0, h3, h4, h8, h37, hA73, hA87, hA109, hM⟩ := hinv
      simp only [putsX, Act.put, List.setIfInBounds_toArray, List.set_cons_zero, List.set_cons_succ]
      go_wp2_with fail
      refine stepQ_normal ⟨trivial, upd x 1 (.pointer (some ⟨w.heap.size, 1, none⟩)), ?_, hC, hU.step (fun _ h => Option.some.inj h), h0.keep (by decide) (by decide) _ id, h3.keep (by decide) (by decide) _ id, h4.keep (by decide) (by decide) _ id, h8.keep (by decide) (by decide) _ id, h37.keep (by decide) (by decide) (by decide) _ (Below.refl _ _), hA73.keep (by decide), hA87.keep (by decide), hA109.keep (by decide), hM.keep (by decide) (by decide) _ (fun g h => h.below (Below.refl _ _)) (Below.refl _ _)⟩
      simp only [upd]
      rfl
    case s_2 =>
      intro listed bb u hsz hn hwt hinv
      obtain ⟨x, rfl, hC, hU, h0, h3, h4, h8, h37, hA73, hA87, hA109, hM⟩ := hinv
      have f1 := Lib.hid (hU 1 _ rfl (hwt 1 (by kernel_rfl)))
      simp only [putsX, Act.put, List.setIfInBounds_toArray, List.set_cons_zero, List.set_cons_succ]
      rw [f1.out]
      obtain ⟨d0, d1, d2⟩ := cells3 (keep_block hC p1 (lt_of_block p1))
      go_wp2_with fail
      refine stepQ_normal ⟨trivial, upd x 2 (.slice a1 n1 c1), ?_, hC, hU.step (fun _ h => Option.some.inj h), h0.keep (by decide) (by decide) _ id, h3.keep (by decide) (by decide) _ id, h4.keep (by decide) (by decide) _ id, h8.keep (by decide) (by decide) _ id, h37.keep (by decide) (by decide) (by decide) _ (Below.refl _ _), hA73.keep (by decide), hA87.keep (by decide), hA109.keep (by decide), hM.keep (by decide) (by decide) _ (fun g h => h.below (Below.refl _ _)) (Below.refl _ _)⟩
      simp only [upd]
      simp only [f1.out]
      (try rfl)
    case s_3 =>
      intro listed bb u hsz hn hwt hinv
      obtain ⟨x, rfl, hC, hU, h0, h3, h4, h8, h37, hA73, hA87, hA109, hM⟩ := hinv
      have f2 := Lib.hid (hU 2 _ rfl (hwt 2 (by kernel_rfl)))
      simp only [putsX, Act.put, List.setIfInBounds_toArray, List.set_cons_zero, List.set_cons_succ]
      rw [f2.out]
      obtain ⟨bn, fp, hbn, hbb⟩ := h0 (hwt 0 (by kernel_rfl)) hn
      have FP := Lib.hid fp
      rw [FP.out]
      have hCs := hC.size
      have HRU := Lib.hid (intsK.below HR1.out hC)
      clear fp
      go_wp2_with (at_builtin; refine copy_ints rfl _ _ rfl w1.heap.size bn rfl hbn hbb a1 n1 c1 y rfl HRU.out hl1 hCs ?_)
      intro ad cd u' S own' hS' hb'
      have N7 : listed.getD 7 false = false := hA73.no hn
      have HB : ∀ b ∈ S, w1.heap.size ≤ b := fun b hb => by rw [hS' b hb]; exact hCs
      clear hbb hbn HRU
      go_wp2_with fail
      refine stepQ_normal ⟨trivial, upd x 3 (.slice ad n1 cd), ?_, hC.trans (hb'.mono hC.size), hU.step (fun _ h => by cases h), FactW.call (by rw [hsz]; decide), FactW.new ⟨ad, cd, S, rfl, own', HB⟩, h4.keep (by decide) (by decide) _ (fun ⟨b1, b2, b3, b4⟩ => ⟨b1, b2, b3, keep_block (hb') b4 (lt_of_block b4)⟩), h8.keep (by decide) (by decide) _ (fun h => h.below (hb')), Pair37.no N7 (by decide) _, hA73.keep (by decide), hA87.keep (by decide), hA109.keep (by decide), hM.keep (by decide) (by decide) _ (fun g h => h.below (hb')) (hb')⟩
      simp only [upd]
      simp only [f2.out, FP.out]
      (try rfl)
    case s_4 =>
      intro listed bb u hsz hn hwt hinv
      obtain ⟨x, rfl, hC, hU, h0, h3, h4, h8, h37, hA73, hA87, hA109, hM⟩ := hinv
      simp only [putsX, Act.put, List.setIfInBounds_toArray, List.set_cons_zero, List.set_cons_succ]
      go_wp2_with fail
      refine stepQ_normal ⟨trivial, upd x 4 (.slice (some ⟨u.heap.size, 0, none⟩) 0 0), ?_, hC.alloc hC.size _, hU.step (fun _ h => by cases h), h0.keep (by decide) (by decide) _ (fun ⟨b1, b2, b3, b4⟩ => ⟨b1, b2, b3, keep_block (below_allocI _) b4 (lt_of_block b4)⟩), h3.keep (by decide) (by decide) _ (fun h => h.below (below_allocI _)), FactW.new ⟨_, rfl, hC.size, heap_alloc_new _ _⟩, h8.keep (by decide) (by decide) _ (fun h => h.below (below_allocI _)), h37.keep (by decide) (by decide) (by decide) _ (below_allocI _), hA73.keep (by decide), hA87.keep (by decide), hA109.keep (by decide), hM.keep (by decide) (by decide) _ (fun g h => h.below (below_allocI _)) (below_allocI _)⟩
      simp only [upd]
      rfl
    case s_5 =>
      intro listed bb u hsz hn hwt hinv
      obtain ⟨x, rfl, hC, hU, h0, h3, h4, h8, h37, hA73, hA87, hA109, hM⟩ := hinv
      simp only [putsX, Act.put, List.setIfInBounds_toArray, List.set_cons_zero, List.set_cons_succ]
      go_wp2_with fail
      refine stepQ_normal ⟨trivial, upd x 5 (.pointer (some ⟨w.heap.size, 2, none⟩)), ?_, hC, hU.step (fun _ h => Option.some.inj h), h0.keep (by decide) (by decide) _ id, h3.keep (by decide) (by decide) _ id, h4.keep (by decide) (by decide) _ id, h8.keep (by decide) (by decide) _ id, h37.keep (by decide) (by decide) (by decide) _ (Below.refl _ _), hA73.keep (by decide), hA87.keep (by decide), hA109.keep (by decide), hM.keep (by decide) (by decide) _ (fun g h => h.below (Below.refl _ _)) (Below.refl _ _)⟩
      simp only [upd]
      rfl
    case s_6 =>
      intro listed bb u hsz hn hwt hinv
      obtain ⟨x, rfl, hC, hU, h0, h3, h4, h8, h37, hA73, hA87, hA109, hM⟩ := hinv
      have f5 := Lib.hid (hU 5 _ rfl (hwt 5 (by kernel_rfl)))
      simp only [putsX, Act.put, List.setIfInBounds_toArray, List.set_cons_zero, List.set_cons_succ]
      rw [f5.out]
      obtain ⟨d0, d1, d2⟩ := cells3 (keep_block hC p1 (lt_of_block p1))
      go_wp2_with fail
      refine stepQ_normal ⟨trivial, upd x 6 (.slice a2 n2 c2), ?_, hC, hU.step (fun _ h => Option.some.inj h), h0.keep (by decide) (by decide) _ id, h3.keep (by decide) (by decide) _ id, h4.keep (by decide) (by decide) _ id, h8.keep (by decide) (by decide) _ id, h37.keep (by decide) (by decide) (by decide) _ (Below.refl _ _), hA73.keep (by decide), hA87.keep (by decide), hA109.keep (by decide), hM.keep (by decide) (by decide) _ (fun g h => h.below (Below.refl _ _)) (Below.refl _ _)⟩
      simp only [upd]
      simp only [f5.out]
      (try rfl)
    case s_7 =>
      intro listed bb u hsz hn hwt hinv
      obtain ⟨x, rfl, hC, hU, h0, h3, h4, h8, h37, hA73, hA87, hA109, hM⟩ := hinv
      have f6 := Lib.hid (hU 6 _ rfl (hwt 6 (by kernel_rfl)))
      simp only [putsX, Act.put, List.setIfInBounds_toArray, List.set_cons_zero, List.set_cons_succ]
      rw [f6.out]
      obtain ⟨bn, fp, hbn, hbb⟩ := h4 (hwt 4 (by kernel_rfl)) hn
      have FP := Lib.hid fp
      rw [FP.out]
      have hCs := hC.size
      have HRU := Lib.hid (intsK.below HR2.out hC)
      clear fp
      go_wp2_with (at_builtin; refine copy_ints rfl _ _ rfl w1.heap.size bn rfl hbn hbb a2 n2 c2 z rfl HRU.out hl2 hCs ?_)
      intro ad cd u' S own' hS' hb'
      have L3 : listed.getD 3 false = true := hwt 3 (by kernel_rfl)
      have N8 : listed.getD 8 false = false := hA87.no hn
      obtain ⟨ab, cb, S3, e3, o3, k3⟩ := h3 L3 N8
      have o3' := intsK.ownBelow o3 hb'
      have HP : ∃ ab cb S ac cc T, x 3 = .slice ab n1 cb ∧ (Value.slice ad n2 cd) = .slice ac n2 cc ∧ intsK.own u' S [.slice ab n1 cb] y ∧ intsK.own u' T [.slice ac n2 cc] z ∧ (S ++ T).Nodup ∧ ∀ b ∈ S ++ T, w1.heap.size ≤ b := by
        refine ⟨ab, cb, S3, ad, cd, S, e3, rfl, o3', own', ?_, fun b hb => ?_⟩
        · rw [List.nodup_append]
          exact ⟨intsK.nodup o3, intsK.nodup own', fun a ha b hb e => by have := intsK.lt o3 a ha; have := hS' b hb; omega⟩
        · rcases List.mem_append.1 hb with h | h
          · exact k3 b h
          · rw [hS' b h]; exact hCs
      clear hbb hbn HRU o3 o3' k3 e3
      go_wp2_with fail
      refine stepQ_normal ⟨trivial, upd x 7 (.slice ad n2 cd), ?_, hC.trans (hb'.mono hC.size), hU.step (fun _ h => by cases h), h0.keep (by decide) (by decide) _ (fun ⟨b1, b2, b3, b4⟩ => ⟨b1, b2, b3, keep_block (hb') b4 (lt_of_block b4)⟩), h3.keep (by decide) (by decide) _ (fun h => h.below (hb')), FactW.call (by rw [hsz]; decide), FactW.no N8 (by decide) _, Pair37.new HP, Aft.new L3, hA87.keep (by decide), hA109.keep (by decide), hM.keep (by decide) (by decide) _ (fun g h => h.below (hb')) (hb')⟩
      simp only [upd]
      simp only [f6.out, FP.out]
      (try rfl)
    case s_8 =>
      intro listed bb u hsz hn hwt hinv
      obtain ⟨x, rfl, hC, hU, h0, h3, h4, h8, h37, hA73, hA87, hA109, hM⟩ := hinv
      simp only [putsX, Act.put, List.setIfInBounds_toArray, List.set_cons_zero, List.set_cons_succ]
      have L7 : listed.getD 7 false = true := hwt 7 (by kernel_rfl)
      obtain ⟨ab, cb, S3, ac, cc, S7, e3, e7, o3, o7, hnd, hbs⟩ := h37 L7 hn
      have E3 := Lib.hid e3
      have E7 := Lib.hid e7
      rw [E3.out, E7.out]
      clear e3 e7
      have N10 : listed.getD 10 false = false := hA109.no hn
      go_wp2_with fail
      refine stepQ_normal ⟨trivial, upd x 8 (.agg #[.slice none 0 0, .slice ab n1 cb, .slice ac n2 cc]), ?_, hC, hU.step (fun _ h => by cases h), h0.keep (by decide) (by decide) _ id, FactW.call (by rw [hsz]; decide), h4.keep (by decide) (by decide) _ id, FactW.new ⟨ab, cb, S3, ac, cc, S7, rfl, o3, o7, hnd, hbs⟩, Pair37.gone (by rw [hsz]; decide), hA73.keep (by decide), Aft.new L7, hA109.keep (by decide), hM.keep (by decide) (by decide) _ (fun g h => h.below (Below.refl _ _)) (Below.refl _ _)⟩
      simp only [upd]
      simp only [E3.out, E7.out]
      (try rfl)
    case s_9 =>
      intro listed bb u hsz hn hwt hinv
      obtain ⟨x, rfl, hC, hU, h0, h3, h4, h8, h37, hA73, hA87, hA109, hM⟩ := hinv
      simp only [putsX, Act.put, List.setIfInBounds_toArray, List.set_cons_zero, List.set_cons_succ]
      go_wp2_with fail
      refine stepQ_normal ⟨trivial, upd x 9 (.pointer (some ⟨u.heap.size, 0, none⟩)), ?_, hC.alloc hC.size _, hU.step (fun _ h => by cases h), h0.keep (by decide) (by decide) _ (fun ⟨b1, b2, b3, b4⟩ => ⟨b1, b2, b3, keep_block (below_allocI _) b4 (lt_of_block b4)⟩), h3.keep (by decide) (by decide) _ (fun h => h.below (below_allocI _)), h4.keep (by decide) (by decide) _ (fun ⟨b1, b2, b3, b4⟩ => ⟨b1, b2, b3, keep_block (below_allocI _) b4 (lt_of_block b4)⟩), h8.keep (by decide) (by decide) _ (fun h => h.below (below_allocI _)), h37.keep (by decide) (by decide) (by decide) _ (below_allocI _), hA73.keep (by decide), hA87.keep (by decide), hA109.keep (by decide), hM.new (by decide) hn hC.size⟩
      simp only [upd]
      rfl
    case s_10 =>
      intro listed bb u hsz hn hwt hinv
      obtain ⟨x, rfl, hC, hU, h0, h3, h4, h8, h37, hA73, hA87, hA109, hM⟩ := hinv
      simp only [putsX, Act.put, List.setIfInBounds_toArray, List.set_cons_zero, List.set_cons_succ]
      have L9 : listed.getD 9 false = true := hwt 9 (by kernel_rfl)
      have L8 : listed.getD 8 false = true := hwt 8 (by kernel_rfl)
      obtain ⟨ab, cb, S3, ac, cc, S7, fp, o3, o7, hnd, hbs⟩ := h8 L8 hn
      obtain ⟨g, fg, hg0, hgz⟩ := hM.there L9 hn
      have FP := Lib.hid fp
      have FG := Lib.hid fg
      rw [FP.out, FG.out]
      obtain ⟨x0, x1, x2⟩ := cells3 hgz
      have k0 := thawed hgz 0
      have k1 := thawed hgz 1
      have k2 := thawed hgz 2
      have hn3 : g ∉ S3 := ints_ne o3 hgz (by decide)
      have hn7 : g ∉ S7 := ints_ne o7 hgz (by decide)
      have HFIN : Hid (PhiA w1.heap.size n1 n2 y z g (((u.setCell ⟨g, 0, none⟩ (.slice none 0 0)).setCell ⟨g, 1, none⟩ (.slice ab n1 cb)).setCell ⟨g, 2, none⟩ (.slice ac n2 cc))) :=
        ⟨ab, cb, S3, ac, cc, S7, set_cells (set_cells (set_cells hgz 0 _) 1 _) 2 _,
          intsK.ownSet (intsK.ownSet (intsK.ownSet o3 (fun b hb e => hn3 (by rw [← show b = g from e]; exact hb)) _) (fun b hb e => hn3 (by rw [← show b = g from e]; exact hb)) _) (fun b hb e => hn3 (by rw [← show b = g from e]; exact hb)) _,
          intsK.ownSet (intsK.ownSet (intsK.ownSet o7 (fun b hb e => hn7 (by rw [← show b = g from e]; exact hb)) _) (fun b hb e => hn7 (by rw [← show b = g from e]; exact hb)) _) (fun b hb e => hn7 (by rw [← show b = g from e]; exact hb)) _,
          hnd, hbs, fun h => by rcases List.mem_append.1 h with h | h; exact hn3 h; exact hn7 h⟩
      have HC9 : Hid (Below w1.heap.size w1 (((u.setCell ⟨g, 0, none⟩ (.slice none 0 0)).setCell ⟨g, 1, none⟩ (.slice ab n1 cb)).setCell ⟨g, 2, none⟩ (.slice ac n2 cc))) := ((hC.setCell hg0 _).setCell hg0 _).setCell hg0 _
      clear fp fg o3 o7 hgz hn3 hn7
      go_wp2_with fail
      refine stepQ_normal ⟨trivial, upd x 10 undef, ?_, HC9.out, hU.step (fun _ h => by cases h), FactW.gone (hwt 3 (by kernel_rfl)), FactW.gone L8, FactW.gone (hwt 7 (by kernel_rfl)), FactW.call (by rw [hsz]; decide), Pair37.goneL L8, hA73.keep (by decide), hA87.keep (by decide), Aft.new L8, MadeG.fill (by decide) L9 (by rw [hsz]; decide) FG.out hg0 HFIN.out⟩
      simp only [upd]
      simp only [FP.out, FG.out]
      (try rfl)
  case he =>
    intro listed q u hall hC hU hS
    obtain ⟨g, eg, hg0, _, hfin⟩ := hS.2.2.2.2.2.2.2.2.2 (hall 9 (by decide))
    obtain ⟨ab, cb, S1, ac, cc, S2, hgc, o1, o2, hnd, hge, hgn⟩ := hfin (hall 10 (by decide))
    simp only [putsX, Act.put, List.setIfInBounds_toArray, List.set_cons_zero, List.set_cons_succ, Nat.zero_add, Nat.reduceAdd]
    have EG := Lib.hid eg
    rw [EG.out]
    clear hU hS hall eg hfin
    generalize q 0 = e0
    generalize q 1 = e1
    generalize q 2 = e2
    generalize q 3 = e3
    generalize q 4 = e4
    generalize q 5 = e5
    generalize q 6 = e6
    generalize q 7 = e7
    generalize q 8 = e8
    have HBU : Hid (Below w.heap.size w u) := HB1.out.trans (hC.mono HB1.out.size)
    have pu := keep_block hC p1 (lt_of_block p1)
    have ru := keep_block hC r1 (lt_of_block r1)
    have HGS : Hid (w1.heap.size ≤ g ∧ g < u.heap.size) := ⟨hg0, lt_of_block hgc⟩
    have O1 := Lib.hid o1
    have O2 := Lib.hid o2
    have HND := Lib.hid hnd
    have HGE := Lib.hid hge
    have HGN := Lib.hid hgn
    have HCU : Hid (w1.heap.size ≤ u.heap.size) := hC.size
    have H0u : Hid (cellsK.rd u [.slice a0 n0 c0] x') := cellsK.below H0.out hC
    obtain ⟨hnl, _, hnm, _⟩ := Kn.row_len H0.out
    have hn0 : n0 ≤ 3000000 := by omega
    have HNL := Lib.hid hnl
    obtain ⟨i0, hi, hz0, hz1, hz2⟩ := info_parts infoCell
    clear o1 o2 hnd hge hgn hg0 p1 r1 H0 HR1 HR2 hC hnm hnl
    go_wp2_with fail
    go_loopw [4] (fun i wr => ∃ (k : Nat) (v : Value) (S : List Nat), k ≤ n0 ∧ i = .int .i64 k ∧ cellK.Bld 41 u.heap.size wr S v (x'.take k) ∧ wr.heap[g]? = some (.cells #[v, .slice ab n1 cb, .slice ac n2 cc] 31 (0, 0)) ∧ Only g u wr) (fun i _ => n0 + 1 - (intOf i).toNat)
    case atStart => exact ⟨0, .slice none 0 0, [], Nat.zero_le _, rfl, Kn.Bld.nil _ _ _ _, hgc, Only.refl _ _⟩
    case round =>
      obtain ⟨k, v, S, hk, rfl, hbld, hgr, hon⟩ := hrel
      have hgw : w.heap.size + 1 < g := by have := HGS.out.1; have := HS1.out; omega
      have pr := (hon.block w.heap.size (lt_of_block pu) (by omega)).trans pu
      have rr := (hon.block (w.heap.size + 1) (lt_of_block ru) (by omega)).trans ru
      have HBW : Hid (Below w.heap.size w wr) := HBU.out.trans (hon.below (by omega) HBU.out.size)
      have HON := Lib.hid hon
      have HBL := Lib.hid hbld
      have Hrd : Hid (cellsK.rd wr [.slice a0 n0 c0] x') := cellsK.below HW0.out HBW.out
      clear hon hbld
      by_cases hlt : k < n0
      case neg =>
        obtain rfl : k = n0 := by omega
        have hI : decide ((k : Int) < (k : Int)) = false := decide_eq_false (by omega)
        have hb0 := HBL.out
        rw [List.take_of_length_le (by rw [HNL.out]; exact Nat.le_refl _)] at hb0
        obtain ⟨va, vc, hv, _, _⟩ := hb0.shape
        rw [HNL.out] at hv
        subst hv
        obtain ⟨S', own', hS'⟩ := hb0.own
        have HO0 := Lib.hid own'
        have HS0 := Lib.hid hS'
        have q1 : ∀ b ∈ S1, b < u.heap.size ∧ b ≠ g ∧ w1.heap.size ≤ b := fun b hb => ⟨intsK.lt O1.out b hb, fun e => HGN.out (by rw [← e]; exact List.mem_append_left _ hb), HGE.out b (List.mem_append_left _ hb)⟩
        have q2 : ∀ b ∈ S2, b < u.heap.size ∧ b ≠ g ∧ w1.heap.size ≤ b := fun b hb => ⟨intsK.lt O2.out b hb, fun e => HGN.out (by rw [← e]; exact List.mem_append_right _ hb), HGE.out b (List.mem_append_right _ hb)⟩
        have P1 := Lib.hid (intsK.same O1.out (fun b hb => HON.out.block b (q1 b hb).1 (q1 b hb).2.1))
        have P2 := Lib.hid (intsK.same O2.out (fun b hb => HON.out.block b (q2 b hb).1 (q2 b hb).2.1))
        have Q1 := Lib.hid q1
        have Q2 := Lib.hid q2
        obtain ⟨x0, x1, x2⟩ := cells3 hgr
        obtain ⟨y0, y1, y2⟩ := cells3 rr
        obtain ⟨z0, z1, z2⟩ := cells3 pr
        have f0 := thawed rr 0
        have f1 := thawed rr 1
        have f2 := thawed rr 2
        clear hb0 own' hS' q1 q2
        go_wp2_with fail
        (try simp only [Exit.inBlock, Exit.then])
        have hs1 := HS1.out
        have hcu := HCU.out
        have k0 : ∀ b ∈ S', b ≠ w.heap.size + 1 := fun b hb => by have := HS0.out b hb; omega
        have k1 : ∀ b ∈ S1, b ≠ w.heap.size + 1 := fun b hb => by have := (Q1.out b hb).2.2; omega
        have k2 : ∀ b ∈ S2, b ≠ w.heap.size + 1 := fun b hb => by have := (Q2.out b hb).2.2; omega
        have hn2 := List.nodup_append.1 HND.out
        refine bodyPost_ret (v := .agg #[.slice va k vc, .slice ab n1 cb, .slice ac n2 cc]) ?_ rfl ⟨[.slice va k vc, .slice ab n1 cb, .slice ac n2 cc], S' ++ (S1 ++ S2), rfl, ?_, fun b hb => ?_, ?_⟩
        · have e := set_cells (set_cells (set_cells rr 0 (.slice va k vc)) 1 (.slice ab n1 cb)) 2 (.slice ac n2 cc)
          obtain ⟨e0, e1, e2⟩ := cells3 e
          simp [results, Tryd.results63, go_sem, e0, e1, e2]
        · refine arr_of ?_ ?_ ?_ (nodup_of (cellsK.nodup HO0.out) hn2.1 hn2.2.1 (fun b hb hb' => ?_) (fun b hb hb' => ?_) (fun b hb hb' => hn2.2.2 b hb' b hb rfl))
          · exact cellsK.ownSet (cellsK.ownSet (cellsK.ownSet HO0.out (fun b hb => k0 b hb) _) (fun b hb => k0 b hb) _) (fun b hb => k0 b hb) _
          · exact intsK.ownSet (intsK.ownSet (intsK.ownSet P1.out (fun b hb => k1 b hb) _) (fun b hb => k1 b hb) _) (fun b hb => k1 b hb) _
          · exact intsK.ownSet (intsK.ownSet (intsK.ownSet P2.out (fun b hb => k2 b hb) _) (fun b hb => k2 b hb) _) (fun b hb => k2 b hb) _
          · have := (Q1.out b hb).1; have := HS0.out b hb'; omega
          · have := (Q2.out b hb).1; have := HS0.out b hb'; omega
        · rcases List.mem_append.1 hb with h | h
          · have := HS0.out b h; omega
          · rcases List.mem_append.1 h with h | h
            · have := (Q1.out b h).2.2; omega
            · have := (Q2.out b h).2.2; omega
        · exact ((HBW.out.setCell (by simp) _).setCell (by simp) _).setCell (by simp) _
      have hI : decide ((k : Int) < (n0 : Int)) = true := decide_eq_true (by omega)
      have wk : IntKind.i64.wrap ((k : Int) + 1) = (k : Int) + 1 := IntWalk.i64_in _ (by omega)
      have hkl : k < x'.length := by rw [HNL.out]; exact hlt
      obtain ⟨ga, oa, ds, rfl, hcell, hel⟩ := Kn.row_at Hrd.out hkl
      have hga : ga < w.heap.size := by
        obtain ⟨g', o', ds', e', hc', hl'⟩ := Kn.row_at HW0.out hkl
        cases e'
        obtain ⟨_, _, _, rfl, _⟩ := cell_rd hl'
        exact World.block_lt_of_cell? _ _ (hc' 0 (by decide))
      have hsm := HSS.out x'[k] (List.getElem_mem _)
      have HTK : Hid (x'.take k ++ [x'[k]] = x'.take (k + 1)) := (List.take_succ_eq_append_getElem hkl).symm
      generalize x'[k] = xk at hel hsm HTK
      obtain ⟨s, p⟩ := xk
      obtain ⟨xa, xn, xc, rfl, hs⟩ := cell_rd hel
      have b0 : wr.cell? ⟨ga, oa + k * 2, none⟩ = some (.slice xa xn xc) := hcell 0 (by decide)
      have b1 : wr.cell? ⟨ga, oa + k * 2 + 1, none⟩ = some (.bool p) := hcell 1 (by decide)
      have HXS : Hid (intsK.rd wr.drew [.slice xa xn xc] s) := intsK.below hs ⟨rfl, rfl, rfl, Nat.le_refl _, fun _ _ => rfl⟩
      obtain ⟨xs, hown, howns, hndS, hgeS, hvS⟩ := HBL.out
      obtain ⟨x0, x1, x2⟩ := cells3 hgr
      obtain ⟨z0, z1, z2⟩ := cells3 pr
      have HTL := Lib.hid (show (x'.take k).length = k by rw [List.length_take]; omega)
      generalize x'.take k = lk at hown howns HTK HTL
      clear hcell hel hs HBL
      go_wp2_with fail
      refine wp_region_float (A := ?A) [.h, .h, .h, .h, .h, .h, .h, .t, .t, .t, .h, .e] (by kernel_rfl) (by kernel_rfl) (fun q => q.cell? ⟨g, 0, none⟩ = some v ∧ q.cell? ⟨w.heap.size, 0, none⟩ = some (.slice (some ⟨ga, oa, none⟩) n0 c0) ∧ q.cell? ⟨ga, oa + k * 2, none⟩ = some (.slice xa xn xc) ∧ q.cell? ⟨ga, oa + k * 2 + 1, none⟩ = some (.bool p)) ?hC ?hH ?hT
      case hC => exact ⟨x0, z0, b0, b1⟩
      case hH =>
        intro q hq
        obtain ⟨h0, h1, h2, h3⟩ := hq
        have z0 := fun t : Same q => t.cell h0
        have z1 := fun t : Same q => t.cell h1
        have z2 := fun t : Same q => t.cell h2
        have z3 := fun t : Same q => t.cell h3
        simp only [headsOf]
        repeat (go_big_quiet_step (fail))
        refine wpQuiet_nil ?_
        exact rfl
      case hT =>
        simp only [chainT]
        have x0' : wr.drew.cell? ⟨g, 0, none⟩ = some v := x0
        have z0' : wr.drew.cell? ⟨w.heap.size, 0, none⟩ = some (.slice (some ⟨ga, oa, none⟩) n0 c0) := z0
        have b0' : wr.drew.cell? ⟨ga, oa + k * 2, none⟩ = some (.slice xa xn xc) := b0
        have b1' : wr.drew.cell? ⟨ga, oa + k * 2 + 1, none⟩ = some (.bool p) := b1
        clear x0 x1 x2 z0 z1 z2 b0 b1
        go_wp2_with fail
        refine (specCell_k HXS.out hsm).mono ?_
        rintro e w4 ⟨d, T4, rfl, own4, hT4, hb4⟩
        obtain ⟨ya, yn, yc, rfl, _⟩ := cell_own own4
        have hbw : Below wr.heap.size wr w4 := ⟨hb4.os, hb4.tape, hb4.output, hb4.size, hb4.block⟩
        have hT4' : ∀ b ∈ T4, wr.heap.size ≤ b := hT4
        have a0 := (hbw.cell (World.block_lt_of_cell? _ _ x0')).trans x0'
        have a1 := (hbw.cell (World.block_lt_of_cell? _ _ z0')).trans z0'
        have a2 := (hbw.cell (World.block_lt_of_cell? _ _ b0')).trans b0'
        have a3 := (hbw.cell (World.block_lt_of_cell? _ _ b1')).trans b1'
        have g4 := keep_block hbw hgr (lt_of_block hgr)
        have hown4 := ownsRow_below hown hbw
        have hlt4 := cellK.owns_lt howns
        have howns4 := cellK.owns_same howns (fun b hb => hbw.block b (hlt4 b hb))
        have hbA : Below w4.heap.size w4 (w4.alloc (.cells #[.slice ya yn yc, .bool p] 41)) := (Below.refl _ _).alloc (Nat.le_refl _) _
        have d0 := (hbA.cell (World.block_lt_of_cell? _ _ a0)).trans a0
        have d1 := (hbA.cell (World.block_lt_of_cell? _ _ a1)).trans a1
        have d2 := (hbA.cell (World.block_lt_of_cell? _ _ a2)).trans a2
        have d3 := (hbA.cell (World.block_lt_of_cell? _ _ a3)).trans a3
        have g5 := keep_block hbA g4 (lt_of_block g4)
        have howns5 := cellK.owns_same howns4 (fun b hb => hbA.block b (by have := hlt4 b hb; have := hbw.size; omega))
        have own5 := cellK.ownBelow own4 hbA
        have hvb : ∀ j, Value.ownBlock v = some j → u.heap.size ≤ j ∧ j < wr.heap.size := fun j hj => World.ownsRow.lt hown j hj
        have hus : u.heap.size ≤ wr.heap.size := HON.out.size
        clear x0' z0' b0' b1'
        go_wp2_with fail
        refine stepQ_normal ⟨⟨a0, a1, a2, a3⟩, ?_⟩
        go_wp2_with fail
        refine stepQ_normal ⟨⟨d0, d1, d2, d3⟩, ?_⟩
        go_wp2_with (at_builtin; refine wpList_append_own_at _ rfl _ _ 28 rfl u.heap.size 41 i0 (.agg #[.slice none 0 0, .bool false]) 2 32 Tryd.underlying28 hi hz0 hz1 hz2 rfl (by decide) _ _ _ rfl (World.ownsRow.alloc hown4 _) ⟨w4.heap.size, 0, none⟩ 1 1 [.slice ya yn yc, .bool p] rfl rfl (World.news_of_block (heap_alloc_new w4 _)) (by intro q hq; simp at hq; rcases hq with rfl | rfl <;> rfl) (by rw [HTL.out]; unfold maxLen; omega) (by rw [HTL.out]; omega) (by have := hbw.size; simp; omega) ?_)
        intro v' w6 hown6 hgrow _ hat
        have R : cellK.Bld 41 u.heap.size w6 (S ++ T4) v' (lk ++ [(s, p)]) :=
          Kn.Bld.more (w := w4) (w2 := w4.alloc (.cells #[.slice ya yn yc, .bool p] 41)) howns5 hndS hgeS hvS own5 (fun b hb => by have := hT4' b hb; omega) (fun b hb hb' => by have := hT4' b hb; have := hlt4 b hb'; omega) (fun j hj hm => by have := hT4' j hm; have := (hvb j hj).2; omega) hown6 hgrow (by simpa using hat)
        have hgne : ∀ b, b < u.heap.size → some b ≠ Value.ownBlock v := fun b hb e => by have := (hvb b e.symm).1; omega
        have g6 := (hgrow.block g (lt_of_block g5) (hgne g HGS.out.2)).trans g5
        have HON6 : Only g u w6 := by
          have hsz := hgrow.size
          have hsz2 := hbw.size
          refine ⟨(hgrow.os.trans (hbA.os.trans hbw.os)).trans HON.out.os, (hgrow.tape.trans (hbA.tape.trans hbw.tape)).trans HON.out.tape, (hgrow.output.trans (hbA.output.trans hbw.output)).trans HON.out.output, by simp at hsz; omega, fun b hb hne => ?_⟩
          exact ((hgrow.block b (by simp; omega) (hgne b hb)).trans ((hbA.block b (by omega)).trans (hbw.block b (by omega)))).trans (HON.out.block b hb hne)
        have e0 : w6.cell? ⟨g, 0, none⟩ = some v := (cells3 g6).1
        have e1 : w6.cell? ⟨w.heap.size, 0, none⟩ = some (.slice (some ⟨ga, oa, none⟩) n0 c0) := by
          have := hgrow.cell_far ⟨w.heap.size, 0, none⟩ (by have := World.block_lt_of_cell? _ _ d1; simpa using this) (hgne _ (by have := HBU.out.size; have := lt_of_block pu; omega))
          exact this.trans d1
        have e2 : w6.cell? ⟨ga, oa + k * 2, none⟩ = some (.slice xa xn xc) := by
          have := hgrow.cell_far ⟨ga, oa + k * 2, none⟩ (by have := World.block_lt_of_cell? _ _ d2; simpa using this) (hgne ga (by have := HBU.out.size; omega))
          exact this.trans d2
        have e3 : w6.cell? ⟨ga, oa + k * 2 + 1, none⟩ = some (.bool p) := by
          have := hgrow.cell_far ⟨ga, oa + k * 2 + 1, none⟩ (by have := World.block_lt_of_cell? _ _ d3; simpa using this) (hgne ga (by have := HBU.out.size; omega))
          exact this.trans d3
        obtain ⟨aa, ag, hv', _, _⟩ := R.shape
        have hll : (lk ++ [(s, p)]).length = lk.length + 1 := by rw [List.length_append]; rfl
        rw [hll] at hv'
        subst hv'
        have f6 := thawed g6 0
        have g7 := set_cells g6 0 (.slice aa (lk.length + 1) ag)
        have HR7 : Hid (cellK.Bld 41 u.heap.size (w6.setCell ⟨g, 0, none⟩ (.slice aa (lk.length + 1) ag)) (S ++ T4) (.slice aa (lk.length + 1) ag) (x'.take (k + 1))) := by
          show Kn.Bld _ _ _ _ _ _ _
          rw [← HTK.out]
          exact R.setCell HGS.out.2 _
        have HON7 : Hid (Only g u (w6.setCell ⟨g, 0, none⟩ (.slice aa (lk.length + 1) ag))) := HON6.setCell (p := ⟨g, 0, none⟩) rfl _
        clear a0 a1 a2 a3 d0 d1 d2 d3 g4 g5 R HON6 hown6 hgrow hown4 howns4 howns5 own5 own4 hbA hat
        go_wp2_with fail
        refine stepQ_normal ⟨⟨e0, e1, e2, e3⟩, ?_⟩
        go_wp2_with fail
        refine stepQ_normal ⟨trivial, ?_⟩
        clear e0 e1 e2 e3 f6
        go_wp2_with fail
        go_roundw
        case rel => exact ⟨k + 1, _, _, by omega, by go_num, HR7.out, g7, HON7.out⟩
        case measure => simp [intOf]; omega

end Go.Proofs.YtfpfgaifhmgpiaaDoor

namespace Go.Proofs.YtfpfgaifhmgpiaaDoor
open Go.RowKit Go.PlainAid

set_option linter.unusedVariables false

/-- A place of a row of ints of the call's own. -/
theorem ints_place {w : World} {S : List Nat} {a : Option Addr} {n c : Nat} {l : List Int} (h : intsK.own w S [.slice a n c] l) {k : Nat} (hk : k < l.length) :
    ∃ g off, a = some ⟨g, off, none⟩ ∧ g ∈ S ∧ w.cell? ⟨g, off + k, none⟩ = some (.int .i64 (l.getD k 0)) ∧ w.frozen? ⟨g, off + k, none⟩ = false ∧ g < w.heap.size ∧
      ∀ v : Int, intsK.own (w.setCell ⟨g, off + k, none⟩ (.int .i64 v)) S [.slice a n c] (l.set k v) := by
  obtain ⟨g, off, cs, S1, ha, hg, hS1, hc, hf, hel, _, hce, _⟩ := Kn.own_at h hk
  obtain ⟨rfl, rfl⟩ : S1 = [] ∧ cs = [.int .i64 l[k]] := hel
  have e : l.getD k 0 = l[k] := by rw [List.getD_eq_getElem?_getD, List.getElem?_eq_getElem hk]; rfl
  have h0 := hc 0 (by decide)
  have e1 : off + k * intK.K + 0 = off + k := by show off + k * 1 + 0 = _; omega
  rw [e1] at h0
  refine ⟨g, off, ha, hg, by rw [h0, e]; rfl, hf _, intsK.lt h g hg, fun v => ?_⟩
  have := hce 0 (.int .i64 v) v (by decide) ⟨rfl, rfl⟩
  rw [e1] at this
  exact this

/-- An age, so many cycles later. -/
def ageP (n v : Int) : Int := if 100000 < v + n then 100000 else v + n

end Go.Proofs.YtfpfgaifhmgpiaaDoor

namespace Go.Proofs.YtfpfgaifhmgpiaaDoor
open Go.RowKit Go.PlainAid

set_option linter.unusedVariables false

/-- An array of sizes that a program can hold. -/
def ArrFit (x : Arr) : Prop := x.1.length ≤ 3000000 ∧ (∀ c ∈ x.1, c.1.length ≤ 4000000) ∧ x.2.1.length ≤ 4000000 ∧ x.2.2.length ≤ 4000000

instance {ga gb gr gd n : Int} {x : Arr} : Decidable (ArrOk ga gb gr gd x ∧ 0 ≤ n ∧ n ≤ 100000) := inferInstanceAs (Decidable (_ ∧ _ ∧ _))

theorem size_alloc (w : World) (o : Obj) : (w.alloc o).heap.size = w.heap.size + 1 := by simp

/-- Three variables made, one after another. -/
theorem alloc3 {w u : World} {A B C : Obj} (h : ((w.alloc A).alloc B).alloc C = u) :
    u.heap[w.heap.size]? = some A ∧ u.heap[w.heap.size + 1]? = some B ∧ u.heap[w.heap.size + 1 + 1]? = some C ∧ Below w.heap.size w u := by
  subst h
  have s1 := size_alloc w A
  have s2 := size_alloc (w.alloc A) B
  have e : ((w.alloc A).alloc B).heap.size = w.heap.size + 2 := by omega
  refine ⟨(heap_alloc_old _ _ (by omega)).trans (heap_alloc2_old _ _ _), (heap_alloc_old _ _ (by omega)).trans (heap_alloc2_new _ _ _), ?_, (((Below.refl _ _).alloc (Nat.le_refl _) _).alloc (by omega) _).alloc (by omega) _⟩
  rw [← e]
  exact heap_alloc_new _ _

end Go.Proofs.YtfpfgaifhmgpiaaDoor

namespace Go.Proofs.YtfpfgaifhmgpiaaDoor
open Go.RowKit Go.PlainAid

set_option linter.unusedVariables false

set_option maxHeartbeats 1000000 in
theorem specRow14_is (a b c d x y : Int) (v : Bool) (hv : decide (AdOk a b c d x y 0) = v) (w : World) :
    Calls Tryd.prog 65 #[.agg #[.int .i64 a, .int .i64 b, .int .i64 c, .int .i64 d], .int .i64 x, .int .i64 y] w (Gives (.bool v) w) := by
  have HV := Lib.hid hv
  clear hv
  obtain ⟨w1, hw1⟩ : ∃ w1, w.alloc (.cells #[.int .i64 a, .int .i64 b, .int .i64 c, .int .i64 d] 25) = w1 := ⟨_, rfl⟩
  have HB : Hid (Below w.heap.size w w1) := by subst hw1; exact (Below.refl _ _).alloc (Nat.le_refl _) _
  have hA : w1.heap[w.heap.size]? = some (.cells #[.int .i64 a, .int .i64 b, .int .i64 c, .int .i64 d] 25) := hw1 ▸ heap_alloc_new w _
  obtain ⟨a0, a1, a2, a3⟩ := cells4 hA
  go_enter Tryd.func65, Tryd.ntmps65
  go_wp2_with fail
  refine (specAddrOk_is a b c d x y 0 v HV.out _).mono ?_
  rintro e w2 ⟨rfl, hb2⟩
  have HB2 : Hid (Below w.heap.size w w2) := HB.out.trans (hb2.mono HB.out.size)
  clear hb2 a0 a1 a2 a3 hA
  go_wp2_with fail
  go_ret
  exact ⟨rfl, HB2.out⟩

/-- A row has stood too long, or was disturbed too often. -/
def goneF (la lh : Int) (x : Arr) (i : Nat) : Prop := la < x.2.1.getD i 0 ∨ lh < x.2.2.getD i 0

instance (la lh : Int) (x : Arr) (i : Nat) : Decidable (goneF la lh x i) := inferInstanceAs (Decidable (_ ∨ _))

set_option maxHeartbeats 4000000 in
set_option maxRecDepth 100000 in
theorem specGone_is (ga gb gr gd la lh : Int) {cs : List Value} {x : Arr} {w : World} (h : arrK.rd w cs x) {i : Nat} (hi : i < x.2.1.length) (hj : i < x.2.2.length) (v : Bool) (hv : decide (goneF la lh x i) = v) :
    Calls Tryd.prog 97 #[.agg #[.int .i64 ga, .int .i64 gb, .int .i64 gr, .int .i64 gd], .agg #[.int .i64 la, .int .i64 lh], .agg cs.toArray, .int .i64 i] w (Gives (.bool v) w) := by
  obtain ⟨a0, n0, c0, a1, n1, c1, a2, n2, c2, rfl, h0, h1, h2⟩ := arr_rd h
  obtain ⟨l1, _, m1, _⟩ := Kn.row_len h1
  obtain ⟨l2, _, m2, _⟩ := Kn.row_len h2
  obtain ⟨x, y, z⟩ := x
  unfold maxLen at m1 m2
  obtain ⟨w1, hw1⟩ : ∃ u, ((w.alloc (.cells #[.int .i64 ga, .int .i64 gb, .int .i64 gr, .int .i64 gd] 25)).alloc (.cells #[.int .i64 la, .int .i64 lh] 27)).alloc (.cells #[.slice a0 n0 c0, .slice a1 n1 c1, .slice a2 n2 c2] 31) = u := ⟨_, rfl⟩
  obtain ⟨g1, t1, p1, hb1⟩ := alloc3 hw1
  have HB1 := Lib.hid hb1
  have hi' : i < y.length := hi
  have hj' : i < z.length := hj
  have hn1 : i < n1 := by rw [← show y.length = n1 from l1]; exact hi'
  have hn2 : i < n2 := by rw [← show z.length = n2 from l2]; exact hj'
  obtain ⟨gy, oy, rfl, cy⟩ := (ints_row (intsK.below h1 hb1)).at hi'
  obtain ⟨gz, oz, rfl, cz⟩ := (ints_row (intsK.below h2 hb1)).at hj'
  have HV : Hid (decide (la < y.getD i 0 ∨ lh < z.getD i 0) = v) := hv
  generalize y.getD i 0 = u1 at cy HV
  generalize z.getD i 0 = u2 at cz HV
  clear h h0 h1 h2 hi hj hi' hj' hv hb1 l1 l2
  obtain ⟨t0, t1⟩ := cells2 t1
  obtain ⟨p0, p1, p2⟩ := cells3 p1
  have z0 := fun q : Later w1 => q.cell t0
  have z1 := fun q : Later w1 => q.cell t1
  have z3 := fun q : Later w1 => q.cell p1
  have z4 := fun q : Later w1 => q.cell p2
  have z5 := fun q : Later w1 => q.cell cy
  have z6 := fun q : Later w1 => q.cell cz
  clear t0 t1 p0 p1 p2 cy cz g1
  by_cases k1 : la < u1
  case pos =>
    have d1 : decide (la < u1) = true := decide_eq_true k1
    have HE : Hid (true = v) := by rw [← HV.out]; exact (decide_eq_true (Or.inl k1)).symm
    clear k1
    go_enter Tryd.func97, Tryd.ntmps97
    go_wp2_with fail
    refine wp_region_later (by kernel_rfl) (by kernel_rfl) ?_
    repeat (go_big_quiet_step (fail))
    refine wpQuiet_nil ?_
    rintro w2 ⟨zz, hz⟩
    have HB2 : Hid (Below w.heap.size w w2) := HB1.out.trans ((hz ▸ zz.ok : Below w1.heap.size w1 w2).mono HB1.out.size)
    clear z0 z1 z3 z4 z5 z6 hz zz
    go_wp2_with fail
    go_ret
    exact ⟨ret_b HE.out, HB2.out⟩
  case neg =>
    have d1 : decide (la < u1) = false := decide_eq_false k1
    obtain ⟨bb, hbb⟩ : ∃ bb, decide (lh < u2) = bb := ⟨_, rfl⟩
    have HE : Hid (bb = v) := by rw [← HV.out, ← hbb]; exact decide_eq_decide.2 ⟨Or.inr, fun h => h.resolve_left k1⟩
    clear k1
    go_enter Tryd.func97, Tryd.ntmps97
    go_wp2_with fail
    refine wp_region_later (by kernel_rfl) (by kernel_rfl) ?_
    repeat (go_big_quiet_step (fail))
    refine wpQuiet_nil ?_
    rintro w2 ⟨zz, hz⟩
    have HB2 : Hid (Below w.heap.size w w2) := HB1.out.trans ((hz ▸ zz.ok : Below w1.heap.size w1 w2).mono HB1.out.size)
    clear z0 z1 z3 z4 z5 z6 hz zz
    go_wp2_with fail
    go_ret
    exact ⟨ret_b HE.out, HB2.out⟩

/-- A row that exists, in a valid array, has gone. -/
def decF (ga gb gr gd la lh : Int) (x : Arr) (bk rw : Int) : Prop := ArrOk ga gb gr gd x ∧ AdOk ga gb gr gd bk rw 0 ∧ goneF la lh x (bk * gr + rw).toNat

instance (ga gb gr gd la lh : Int) (x : Arr) (bk rw : Int) : Decidable (decF ga gb gr gd la lh x bk rw) := inferInstanceAs (Decidable (_ ∧ _))

/-- The place of a row that exists. -/
theorem row_place {ga gb gr gd bk rw : Int} {x : Arr} (h : ArrOk ga gb gr gd x) (hr : AdOk ga gb gr gd bk rw 0) :
    ∃ i : Nat, bk * gr + rw = i ∧ i < x.2.1.length ∧ i < x.2.2.length ∧ i < 128 ∧ 0 ≤ bk * gr ∧ bk * gr ≤ 128 := by
  obtain ⟨hg, _, h1, h2, _⟩ := h
  obtain ⟨⟨b0, b1⟩, ⟨r0, r1⟩, _⟩ := hr
  have hrr := rowsN_range hg
  obtain ⟨_, _, ⟨h3, h4⟩, _⟩ := hg
  have e1 : 0 ≤ bk * gr := Int.mul_nonneg b0 (by omega)
  have e2 : bk * gr + gr ≤ bankN ga gb gr gd * gr := by
    have : (bk + 1) * gr ≤ bankN ga gb gr gd * gr := Int.mul_le_mul_of_nonneg_right (by omega) (by omega)
    rw [Int.add_mul, Int.one_mul] at this
    exact this
  generalize bk * gr = q at e1 e2 ⊢
  generalize bankN ga gb gr gd * gr = R at e2 h1 hrr
  exact ⟨(q + rw).toNat, by omega, by omega, by omega, by omega, by omega, by omega⟩

end Go.Proofs.YtfpfgaifhmgpiaaDoor

namespace Go.Proofs.YtfpfgaifhmgpiaaDoor
open Go.RowKit Go.PlainAid

set_option linter.unusedVariables false

/-- An element, with bits turned. -/
def xr (v : Int) (m : Nat) : Int := ((v.toNat ^^^ m : Nat) : Int)

/-- A cell's two first symbols spoiled. -/
def spoil (s : List Int) : List Int := (s.set 0 (xr (s.getD 0 0) 5)).set 1 (xr (s.getD 1 0) 10)

/-- So many cells from a place on spoiled. -/
def spoilN (X : List (List Int × Bool)) (b : Nat) : Nat → List (List Int × Bool)
  | 0 => X
  | k + 1 => (spoilN X b k).set (b + k) (spoil ((spoilN X b k).getD (b + k) ([], false)).1, ((spoilN X b k).getD (b + k) ([], false)).2)

theorem spoilN_length (X : List (List Int × Bool)) (b k : Nat) : (spoilN X b k).length = X.length := by
  induction k with
  | zero => rfl
  | succ k ih => rw [spoilN, List.length_set, ih]

theorem spoilN_far {X : List (List Int × Bool)} {b k j : Nat} (d : List Int × Bool) (h : j < b ∨ b + k ≤ j) : (spoilN X b k).getD j d = X.getD j d := by
  induction k with
  | zero => rfl
  | succ k ih =>
    rw [spoilN, List.getD_eq_getElem?_getD, List.getElem?_set_ne (by omega), ← List.getD_eq_getElem?_getD]
    exact ih (by omega)

/-- One more disturbance. -/
def hitF (z : List Int) (k : Nat) : List Int := z.set k (ageP 1 (z.getD k 0))

def hitsF (gr : Int) (z : List Int) (i : Nat) (rw : Int) : List Int :=
  let z1 := if 0 < rw then hitF (z.set i 0) (i - 1) else z.set i 0
  if rw < gr - 1 then hitF z1 (i + 1) else z1

/-- A row sensed. -/
def senseF (gr gd la lh : Int) (x : Arr) (i : Nat) (rw : Int) : Arr :=
  (if goneF la lh x i then spoilN x.1 (i * gd.toNat) gd.toNat else x.1, x.2.1.set i 0, hitsF gr x.2.2 i rw)

theorem age_getD {l : List Int} (h : ∀ v ∈ l, AgeOk v) (k : Nat) : AgeOk (l.getD k 0) := by
  by_cases hk : k < l.length
  · rw [List.getD_eq_getElem?_getD, List.getElem?_eq_getElem hk]
    exact h _ (List.getElem_mem _)
  · rw [List.getD_eq_getElem?_getD, List.getElem?_eq_none (by omega)]
    exact ⟨by decide, by decide⟩

theorem age_set {l : List Int} (h : ∀ v ∈ l, AgeOk v) (k : Nat) {u : Int} (hu : AgeOk u) : ∀ v ∈ l.set k u, AgeOk v := by
  intro v hv
  rcases List.mem_or_eq_of_mem_set hv with h1 | rfl
  · exact h v h1
  · exact hu

theorem ageP_ok {v : Int} (h : AgeOk v) : AgeOk (ageP 1 v) := by
  obtain ⟨h0, h1⟩ := h
  unfold ageP
  split
  · exact ⟨by decide, by decide⟩
  · exact ⟨by omega, by omega⟩

theorem age_hit {l : List Int} (h : ∀ v ∈ l, AgeOk v) (k : Nat) : ∀ v ∈ hitF l k, AgeOk v := age_set h k (ageP_ok (age_getD h k))

/-- The place of a row that exists, and of its neighbours. -/
theorem row_near {ga gb gr gd bk rw : Int} {x : Arr} (h : ArrOk ga gb gr gd x) (hr : AdOk ga gb gr gd bk rw 0) :
    ∃ i D : Nat, bk * gr + rw = i ∧ gd = D ∧ D ≤ 8 ∧ i * D + D ≤ x.1.length ∧ (0 < rw → 1 ≤ i) ∧ (rw < gr - 1 → i + 1 < x.2.1.length) ∧ (2 ≤ gr ∧ gr ≤ 16) := by
  obtain ⟨hg, h0, h1, h2, _⟩ := h
  obtain ⟨⟨b0, b1⟩, ⟨r0, r1⟩, _⟩ := hr
  have hrr := rowsN_range hg
  obtain ⟨_, _, ⟨h3, h4⟩, h5, h6⟩ := hg
  have e1 : 0 ≤ bk * gr := Int.mul_nonneg b0 (by omega)
  have e2 : bk * gr + gr ≤ bankN ga gb gr gd * gr := by
    have : (bk + 1) * gr ≤ bankN ga gb gr gd * gr := Int.mul_le_mul_of_nonneg_right (by omega) (by omega)
    rw [Int.add_mul, Int.one_mul] at this
    exact this
  unfold lineN at h0
  generalize bk * gr = q at e1 e2 ⊢
  generalize bankN ga gb gr gd * gr = R at e2 h0 h1 hrr
  obtain ⟨i, hi⟩ : ∃ i : Nat, q + rw = i := ⟨(q + rw).toNat, by omega⟩
  obtain ⟨D, hD⟩ : ∃ D : Nat, gd = D := ⟨gd.toNat, by omega⟩
  refine ⟨i, D, hi, hD, by omega, ?_, by omega, by omega, by omega, by omega⟩
  have e3 : ((i : Int) + 1) * D ≤ R * D := Int.mul_le_mul_of_nonneg_right (by omega) (by omega)
  rw [hD] at h0
  rw [← h0, Int.add_mul, Int.one_mul] at e3
  have e4 : ((i * D + D : Nat) : Int) = (i : Int) * D + D := by push_cast; rfl
  have e5 : ((i * D + D : Nat) : Int) ≤ (x.1.length : Int) := by rw [e4]; exact e3
  exact Int.ofNat_le.mp e5

/-- A symbol of a cell of an array of the call's own. -/
theorem cell_place {w : World} {S : List Nat} {cs : List Value} {x : Arr} (h : arrK.own w S cs x) {j : Nat} (hj : j < x.1.length) {c : List Int × Bool} (hc : x.1.getD j ([], false) = c) :
    ∃ g off n0 c0 v1 v2 a n k S1, cs = [.slice (some ⟨g, off, none⟩) n0 c0, v1, v2] ∧ j < n0 ∧ g ∈ S ∧ n0 ≤ maxLen ∧ n = c.1.length ∧ w.cell? ⟨g, off + j * 2, none⟩ = some (.slice a n k) ∧ (∀ b ∈ S1, b ∈ S ∧ b ≠ g) ∧ intsK.own w S1 [.slice a n k] c.1 ∧
      ∀ w' y, OnlyS S1 w w' → intsK.own w' S1 [.slice a n k] y → arrK.own w' S cs (x.1.set j (y, c.2), x.2) := by
  obtain ⟨a0, n0, c0, a1, n1, c1, a2, n2, c2, S0, S1, S2, rfl, rfl, hnd, h0, h1, h2⟩ := arr_own h
  obtain ⟨l0, _, m0, _⟩ := Kn.row_len (cellsK.read h0)
  obtain ⟨g, off, ds, T, rfl, hg, hT, hcell, _, hel, hin, _, _⟩ := Kn.own_at h0 hj
  have he : x.1[j] = c := by rw [← hc, List.getD_eq_getElem?_getD, List.getElem?_eq_getElem hj]; rfl
  rw [he] at hel
  obtain ⟨a, n, k, rfl, hi⟩ := cell_own hel
  obtain ⟨q1, _, _, _⟩ := Kn.row_len (intsK.read hi)
  obtain ⟨u0, u1, u2⟩ := nodup3 hnd
  have hT1 : ∀ b ∈ S1, b ∉ T := fun b hb hb' => (u1 b hb).1 (hT b hb').1
  have hT2 : ∀ b ∈ S2, b ∉ T := fun b hb hb' => (u2 b hb).1 (hT b hb').1
  refine ⟨g, off, n0, c0, _, _, a, n, k, T, rfl, by have : x.1.length = n0 := l0; omega, List.mem_append_left _ hg, m0, q1.symm, hcell 0 (by decide), fun b hb => ⟨List.mem_append_left _ (hT b hb).1, (hT b hb).2⟩, hi, fun w' y ho hy => ?_⟩
  exact arr_of (hin w' (y, c.2) ho (cell_of c.2 hy)) (intsK.ownKeep h1 ho hT1) (intsK.ownKeep h2 ho hT2) hnd

/-- An age of an array of the call's own. -/
theorem age_place {w : World} {S : List Nat} {cs : List Value} {x : Arr} (h : arrK.own w S cs x) {k : Nat} (hk : k < x.2.1.length) :
    ∃ g off v0 n c v2, cs = [v0, .slice (some ⟨g, off, none⟩) n c, v2] ∧ k < n ∧ n ≤ maxLen ∧ g ∈ S ∧ w.cell? ⟨g, off + k, none⟩ = some (.int .i64 (x.2.1.getD k 0)) ∧ w.frozen? ⟨g, off + k, none⟩ = false ∧
      ∀ v : Int, arrK.own (w.setCell ⟨g, off + k, none⟩ (.int .i64 v)) S cs (x.1, x.2.1.set k v, x.2.2) := by
  obtain ⟨a0, n0, c0, a1, n1, c1, a2, n2, c2, S0, S1, S2, rfl, rfl, hnd, h0, h1, h2⟩ := arr_own h
  obtain ⟨l1, _, m1, _⟩ := Kn.row_len (intsK.read h1)
  obtain ⟨g, off, rfl, hg, hc, hf, _, hset⟩ := ints_place h1 hk
  obtain ⟨u0, u1, u2⟩ := nodup3 hnd
  have l1' : x.2.1.length = n1 := l1
  refine ⟨g, off, _, n1, c1, _, rfl, by omega, m1, List.mem_append_right _ (List.mem_append_left _ hg), hc, hf, fun v => arr_of (cellsK.ownSet h0 (fun b hb e => ?_) _) (hset v) (intsK.ownSet h2 (fun b hb e => ?_) _) hnd⟩
  · exact (u0 b hb).1 (e ▸ hg)
  · exact (u2 b hb).2 (e ▸ hg)

/-- A count of disturbances of an array of the call's own. -/
theorem hit_place {w : World} {S : List Nat} {cs : List Value} {x : Arr} (h : arrK.own w S cs x) {k : Nat} (hk : k < x.2.2.length) :
    ∃ g off v0 v1 n c, cs = [v0, v1, .slice (some ⟨g, off, none⟩) n c] ∧ k < n ∧ n ≤ maxLen ∧ g ∈ S ∧ w.cell? ⟨g, off + k, none⟩ = some (.int .i64 (x.2.2.getD k 0)) ∧ w.frozen? ⟨g, off + k, none⟩ = false ∧
      ∀ v : Int, arrK.own (w.setCell ⟨g, off + k, none⟩ (.int .i64 v)) S cs (x.1, x.2.1, x.2.2.set k v) := by
  obtain ⟨a0, n0, c0, a1, n1, c1, a2, n2, c2, S0, S1, S2, rfl, rfl, hnd, h0, h1, h2⟩ := arr_own h
  obtain ⟨l1, _, m1, _⟩ := Kn.row_len (intsK.read h2)
  obtain ⟨g, off, rfl, hg, hc, hf, _, hset⟩ := ints_place h2 hk
  obtain ⟨u0, u1, u2⟩ := nodup3 hnd
  have l1' : x.2.2.length = n2 := l1
  refine ⟨g, off, _, _, n2, c2, rfl, by omega, m1, List.mem_append_right _ (List.mem_append_right _ hg), hc, hf, fun v => arr_of (cellsK.ownSet h0 (fun b hb e => ?_) _) (intsK.ownSet h1 (fun b hb e => ?_) _) (hset v) hnd⟩
  · exact (u0 b hb).2 (e ▸ hg)
  · exact (u1 b hb).2 (e ▸ hg)

end Go.Proofs.YtfpfgaifhmgpiaaDoor

namespace Go.Proofs.YtfpfgaifhmgpiaaDoor
open Go.RowKit Go.PlainAid

set_option linter.unusedVariables false

theorem keep_set {w : World} {P : Nat} {o : Obj} {p : Addr} {v : Value} (h : w.heap[P]? = some o) (hn : P ≠ p.block) : (w.setCell p v).heap[P]? = some o :=
  (Below.heap_setCell w p v P hn).trans h

set_option maxHeartbeats 40000000 in
set_option maxRecDepth 100000 in
theorem specSense_is (ga gb gr gd la lh bk rw : Int) {cs : List Value} {S : List Nat} {xx : Arr} {P i : Nat} {w : World} (hP : w.heap[P]? = some (.cells cs.toArray 31 (0, 0))) (h : arrK.own w S cs xx) (hPS : P ∉ S) (ha : ArrOk ga gb gr gd xx) (hr : AdOk ga gb gr gd bk rw 0) (hi : bk * gr + rw = i) :
    Calls Tryd.prog 66 #[.agg #[.int .i64 ga, .int .i64 gb, .int .i64 gr, .int .i64 gd], .agg #[.int .i64 la, .int .i64 lh], .pointer (some ⟨P, 0, none⟩), .int .i64 bk, .int .i64 rw] w fun e w' => e = .returned (.tuple #[]) ∧ arrK.own w' S cs (senseF gr gd la lh xx i rw) ∧ OnlyS S w w' := by
  obtain ⟨a0, n0, c0, a1, n1, c1, a2, n2, c2, S0, S1, S2, rfl, -⟩ := arr_own h
  obtain ⟨x, y, z⟩ := xx
  obtain ⟨u1, hu1, hi1, hi2, hi3, hq1, hq2⟩ := row_place ha hr
  obtain ⟨u2, D, hu2, hD, hD8, hcl, hup, hdn, hgr⟩ := row_near ha hr
  have e1 : i = u1 := by omega
  have e2 : i = u2 := by omega
  subst e1
  subst e2
  obtain ⟨q, hq⟩ : ∃ q, bk * gr = q := ⟨_, rfl⟩
  rw [hq] at hi hq1 hq2
  subst hD
  obtain ⟨w1, hw1⟩ : ∃ u, (w.alloc (.cells #[.int .i64 ga, .int .i64 gb, .int .i64 gr, .int .i64 (D : Int)] 25)).alloc (.cells #[.int .i64 la, .int .i64 lh] 27) = u := ⟨_, rfl⟩
  have hb1 : Below w.heap.size w w1 := by subst hw1; exact ((Below.refl _ _).alloc (Nat.le_refl _) _).alloc (by simp) _
  have qw1 : w1.heap[w.heap.size]? = some (.cells #[.int .i64 ga, .int .i64 gb, .int .i64 gr, .int .i64 (D : Int)] 25) := hw1 ▸ heap_alloc2_old w _ _
  have l1 : w1.heap[w.heap.size + 1]? = some (.cells #[.int .i64 la, .int .i64 lh] 27) := hw1 ▸ heap_alloc2_new w _ _
  have pw1 := keep_block hb1 hP (lt_of_block hP)
  have HOw1 := Lib.hid (arrK.ownBelow h hb1)
  have HONw1 : Hid (OnlyS S w w1) := Below.onlyS hb1
  have HPS : Hid (P ∉ S) := hPS
  have HGS : Hid (w.heap.size ∉ S) := fun hm => absurd (arrK.lt h _ hm) (Nat.lt_irrefl _)
  have HIY : Hid (i < y.length) := hi1
  have HIZ : Hid (i < z.length) := hi2
  have HLZ : Hid (z.length = y.length) := ha.2.2.2.1
  have HI8 : Hid (i < 128) := hi3
  have HCL : Hid (i * D + D ≤ x.length) := hcl
  have HUP : Hid (0 < rw → 1 ≤ i) := hup
  have HDN : Hid (rw < gr - 1 → i + 1 < y.length) := hdn
  have HZ : Hid (∀ v ∈ z, AgeOk v) := ha.2.2.2.2.2.2
  have HSY : Hid (∀ c ∈ x, SymOk c.1 11) := ha.2.2.2.2.1
  have wq : IntKind.i64.wrap q = q := IntWalk.i64_in _ (by omega)
  have wi : IntKind.i64.wrap ((i : Nat) : Int) = (i : Int) := IntWalk.i64_in _ (by omega)
  have wg : IntKind.i64.wrap (gr - 1) = gr - 1 := IntWalk.i64_in _ (by omega)
  have hw2 : w1.heap.size = w.heap.size + 2 := by subst hw1; simp
  clear h hPS ha hr hu1 hu2 hi1 hi2 hi3 hcl hup hdn hgr hq1 hq2 hb1 hP
  obtain ⟨x0, x1, x2, x3⟩ := cells4 qw1
  obtain ⟨y0, y1⟩ := cells2 l1
  obtain ⟨t0, t1, t2⟩ := cells3 pw1
  have zx0 := fun q : Later w1 => q.cell x0
  have zx1 := fun q : Later w1 => q.cell x1
  have zx2 := fun q : Later w1 => q.cell x2
  have zx3 := fun q : Later w1 => q.cell x3
  have zy0 := fun q : Later w1 => q.cell y0
  have zy1 := fun q : Later w1 => q.cell y1
  have zt0 := fun q : Later w1 => q.cell t0
  have zt1 := fun q : Later w1 => q.cell t1
  have zt2 := fun q : Later w1 => q.cell t2
  by_cases hG : goneF la lh (x, y, z) i
  case pos =>
    have KG := Lib.hid (decide_eq_true hG)
    clear x0 x1 t0 t1 t2 y0 y1
    go_enter Tryd.func66, Tryd.ntmps66
    go_wp2_with fail
    refine wp_region_later (by kernel_rfl) (by kernel_rfl) ?_
    repeat (go_big_quiet_step (first | (go_at_call 97; exact Gives.later _ (specGone_is ga gb gr D la lh (arrK.below (arrK.read HOw1.out) (Later.ok _)) HIY.out HIZ.out true KG.out))))
    refine wpQuiet_nil ?_
    rintro B0 ⟨zz, hz⟩
    have hbR : Below w1.heap.size w1 B0 := hz ▸ zz.ok
    have HOB0 := Lib.hid (arrK.ownBelow HOw1.out hbR)
    have pB0 := keep_block hbR pw1 (lt_of_block pw1)
    have qB0 := keep_block hbR qw1 (lt_of_block qw1)
    have HONB0 : Hid (OnlyS S w B0) := HONw1.out.trans (Below.onlyS hbR)
    clear zx0 zx1 zx2 zx3 zy0 zy1 zt0 zt1 zt2 x2 x3 hz zz hbR
    obtain ⟨bb, hbb⟩ : ∃ bb, i * D = bb := ⟨_, rfl⟩
    have HBB := Lib.hid hbb
    have wm' : IntKind.i64.wrap ((i : Int) * (D : Int)) = (bb : Int) := by
      have e : (i : Int) * (D : Int) = (bb : Int) := by rw [← hbb]; exact (Int.natCast_mul i D).symm
      rw [e]
      exact IntWalk.i64_in _ (by have := HCL.out; have := HI8.out; have : i * D ≤ 128 * 8 := Nat.mul_le_mul (by omega) hD8; omega)
    have hbs : bb ≤ 1024 := by have := HI8.out; have : i * D ≤ 128 * 8 := Nat.mul_le_mul (by omega) hD8; omega
    have HGG := Lib.hid hG
    clear hG hbb
    obtain ⟨x0, x1, x2, x3⟩ := cells4 qB0
    go_wp2_with fail
    go_loopw [11] (fun v wr => ∃ k : Nat, k ≤ D ∧ v = .int .i64 k ∧ arrK.own wr S [.slice a0 n0 c0, .slice a1 n1 c1, .slice a2 n2 c2] (spoilN x bb k, y, z) ∧ OnlyS S B0 wr) (fun v _ => D + 1 - (intOf v).toNat)
    case atStart => exact ⟨0, Nat.zero_le _, rfl, HOB0.out, OnlyS.refl _ _⟩
    case round =>
      obtain ⟨k, hk, rfl, hown, hon⟩ := hrel
      have HOwr := Lib.hid hown
      have pwr := (hon.block P (lt_of_block pB0) HPS.out).trans pB0
      have qwr := (hon.block _ (lt_of_block qB0) HGS.out).trans qB0
      have HONwr : Hid (OnlyS S w wr) := HONB0.out.trans hon
      have HON := Lib.hid hon
      clear hown hon x0 x1 x2 x3
      obtain ⟨x0, x1, x2, x3⟩ := cells4 qwr
      by_cases hlt : k < D
      case neg =>
        obtain rfl : k = D := by omega
        have hI : decide ((k : Int) < (k : Int)) = false := decide_eq_false (by omega)
        obtain ⟨X, hX⟩ : ∃ X, spoilN x bb k = X := ⟨_, rfl⟩
        have HX : Hid ((if goneF la lh (x, y, z) i then spoilN x (i * (k : Int).toNat) (k : Int).toNat else x) = X) := by
          show _ = _
          rw [if_pos HGG.out, Int.toNat_natCast, HBB.out]
          exact hX
        rw [hX] at HOwr
        clear hX
        obtain ⟨gy, oy, _, ny, cy, _, ey, hiny, _, hgy, _, hfy, hsety⟩ := age_place HOwr.out (k := i) HIY.out
        cases ey
        obtain ⟨A1, hA1⟩ : ∃ u, wr.setCell ⟨gy, oy + i, none⟩ (.int .i64 0) = u := ⟨_, rfl⟩
        have HOA1 : Hid (arrK.own A1 S _ (X, y.set i 0, z)) := hA1 ▸ hsety 0
        have pA1 : A1.heap[P]? = _ := hA1 ▸ keep_set pwr (fun e => HPS.out (e ▸ hgy))
        have qA1 : A1.heap[w.heap.size]? = _ := hA1 ▸ keep_set qwr (fun e => HGS.out (e ▸ hgy))
        have HONA1 : Hid (OnlyS S w A1) := hA1 ▸ HONwr.out.setCell hgy _
        clear hsety
        obtain ⟨gj, oj, _, _, nj, cj, ej, hinj, _, hgj, _, hfj, hsetj⟩ := hit_place HOA1.out (k := i) HIZ.out
        cases ej
        obtain ⟨A2, hA2⟩ : ∃ u, A1.setCell ⟨gj, oj + i, none⟩ (.int .i64 (0)) = u := ⟨_, rfl⟩
        have HOA2 : Hid (arrK.own A2 S _ (X, y.set i 0, z.set i 0)) := hA2 ▸ hsetj (0)
        have pA2 : A2.heap[P]? = _ := hA2 ▸ keep_set pA1 (fun e => HPS.out (e ▸ hgj))
        have qA2 : A2.heap[w.heap.size]? = _ := hA2 ▸ keep_set qA1 (fun e => HGS.out (e ▸ hgj))
        have HONA2 : Hid (OnlyS S w A2) := hA2 ▸ HONA1.out.setCell hgj _
        clear hsetj
        obtain ⟨p0, p1, p2⟩ := cells3 pwr
        obtain ⟨r0, r1, r2⟩ := cells3 pA1
        obtain ⟨s0, s1, s2, s3⟩ := cells4 qA2
        by_cases hU : 0 < rw
        case pos =>
          have dU : decide (0 < rw) = true := decide_eq_true hU
          obtain ⟨m, hm⟩ : ∃ m, i = m + 1 := ⟨i - 1, by have := HUP.out hU; omega⟩
          have HM := Lib.hid hm
          have wm : IntKind.i64.wrap ((i : Int) - 1) = (m : Int) := by rw [hm]; exact (IntWalk.i64_in _ (by have := HI8.out; omega)).trans (by omega)
          have HMZ : Hid (m < (z.set i 0).length) := by show _ < _; rw [List.length_set]; have := HIZ.out; omega
          have HZU : Hid (∀ v ∈ z.set i 0, AgeOk v) := age_set HZ.out i ⟨by decide, by decide⟩
          have HUU := Lib.hid hU
          clear hm hU
          go_wp2_with fail
          clear p0 p1 p2 r0 r1 r2
          obtain ⟨Ug, Uo, _, _, Un, Uc, Ue, Uhin, _, Uhg, Uhc, _, _⟩ := hit_place HOA2.out (k := m) HMZ.out
          cases Ue
          obtain ⟨Uv, Uhv⟩ : ∃ v, (z.set i 0).getD m 0 = v := ⟨_, rfl⟩
          have Ua : 0 ≤ Uv ∧ Uv ≤ 100000 := Uhv ▸ age_getD HZU.out m
          have Uhc' : A2.cell? ⟨gj, oj + m, none⟩ = some (.int .i64 Uv) := Uhv ▸ Uhc
          have Uw : IntKind.i64.wrap (Uv + 1) = Uv + 1 := IntWalk.i64_in _ (by omega)
          obtain ⟨Ut0, Ut1, Ut2⟩ := cells3 pA2
          have Uz0 := fun q : Later A2 => q.cell Ut2
          have Uz1 := fun q : Later A2 => q.cell Uhc'
          have UHV := Lib.hid Uhv
          clear Uhc Uhc' Ut0 Ut1 Ut2 Uhv Ua
          refine wp_region_later_tail 16 (by kernel_rfl) (by kernel_rfl) ?_
          simp only [List.take_succ_cons, List.take_zero, List.drop_succ_cons, List.drop_zero]
          repeat (go_big_quiet_step (fail))
          refine wpQuiet_nil ?_
          rintro A3 ⟨zz, hz⟩
          generalize hTT : (if 100000 < Uv + 1 then (100000 : Int) else Uv + 1) = Uu
          have UHU : Hid (ageP 1 Uv = Uu) := hTT
          have hbR : Below A2.heap.size A2 A3 := hz ▸ zz.ok
          have HOA3 := Lib.hid (arrK.ownBelow HOA2.out hbR)
          have pA3 := keep_block hbR pA2 (lt_of_block pA2)
          have qA3 := keep_block hbR qA2 (lt_of_block qA2)
          have HONA3 : Hid (OnlyS S w A3) := HONA2.out.trans (Below.onlyS hbR)
          clear Uz0 Uz1 hz zz hbR hTT
          obtain ⟨Ug', Uo', _, _, Un', Uc', Ue', _, _, Uhg', _, Uhf', Uhset⟩ := hit_place HOA3.out (k := m) HMZ.out
          cases Ue'
          obtain ⟨A4, hA4⟩ : ∃ u, A3.setCell ⟨gj, oj + m, none⟩ (.int .i64 (Uu)) = u := ⟨_, rfl⟩
          have HOA4 : Hid (arrK.own A4 S [.slice a0 n0 c0, .slice (some ⟨gy, oy, none⟩) n1 c1, .slice (some ⟨gj, oj, none⟩) n2 c2] (X, y.set i 0, hitF (z.set i 0) m)) := by
            have := Uhset Uu
            show arrK.own A4 S _ (X, y.set i 0, (z.set i 0).set m (ageP 1 ((z.set i 0).getD m 0)))
            rw [UHV.out, UHU.out]
            exact hA4 ▸ this
          have pA4 : A4.heap[P]? = _ := hA4 ▸ keep_set pA3 (fun e => HPS.out (e ▸ Uhg'))
          have qA4 : A4.heap[w.heap.size]? = _ := hA4 ▸ keep_set qA3 (fun e => HGS.out (e ▸ Uhg'))
          have HONA4 : Hid (OnlyS S w A4) := hA4 ▸ HONA3.out.setCell Uhg' _
          clear Uhset
          clear s0 s1 s2 s3
          obtain ⟨s0, s1, s2, s3⟩ := cells4 qA4
          by_cases hDn : rw < gr - 1
          case pos =>
            have dD : decide (rw < gr - 1) = true := decide_eq_true hDn
            obtain ⟨t, ht⟩ : ∃ t, t = i + 1 := ⟨_, rfl⟩
            have wt : IntKind.i64.wrap ((i : Int) + 1) = (t : Int) := by rw [ht]; exact (IntWalk.i64_in _ (by have := HI8.out; omega)).trans (by omega)
            have HTZ : Hid (t < (hitF (z.set i 0) m).length) := by show _ < _; simp only [hitF, List.length_set]; have := HDN.out hDn; have := HLZ.out; omega
            have HZV : Hid (∀ v ∈ hitF (z.set i 0) m, AgeOk v) := age_hit HZU.out m
            have HE : Hid (senseF gr k la lh (x, y, z) i rw = (X, y.set i 0, hitF (hitF (z.set i 0) m) t)) := by
              show (_, _, _) = _
              rw [ht]
              have e1 : (if goneF la lh (x, y, z) i then spoilN x (i * (k : Int).toNat) (k : Int).toNat else x) = X := HX.out
              have e2 : hitsF gr z i rw = hitF (hitF (z.set i 0) m)  (i + 1) := by
                unfold hitsF
                simp only [if_pos HUU.out, if_pos hDn, HM.out, Nat.add_sub_cancel]
              rw [e2]
              exact congrArg (fun q => (q, y.set i 0, _)) e1
            clear hDn ht
            go_wp2_with fail
            clear s0 s1 s2 s3
            obtain ⟨Vg, Vo, _, _, Vn, Vc, Ve, Vhin, _, Vhg, Vhc, _, _⟩ := hit_place HOA4.out (k := t) HTZ.out
            cases Ve
            obtain ⟨Vv, Vhv⟩ : ∃ v, (hitF (z.set i 0) m).getD t 0 = v := ⟨_, rfl⟩
            have Va : 0 ≤ Vv ∧ Vv ≤ 100000 := Vhv ▸ age_getD HZV.out t
            have Vhc' : A4.cell? ⟨gj, oj + t, none⟩ = some (.int .i64 Vv) := Vhv ▸ Vhc
            have Vw : IntKind.i64.wrap (Vv + 1) = Vv + 1 := IntWalk.i64_in _ (by omega)
            obtain ⟨Vt0, Vt1, Vt2⟩ := cells3 pA4
            have Vz0 := fun q : Later A4 => q.cell Vt2
            have Vz1 := fun q : Later A4 => q.cell Vhc'
            have VHV := Lib.hid Vhv
            clear Vhc Vhc' Vt0 Vt1 Vt2 Vhv Va
            refine wp_region_later_tail 16 (by kernel_rfl) (by kernel_rfl) ?_
            simp only [List.take_succ_cons, List.take_zero, List.drop_succ_cons, List.drop_zero]
            repeat (go_big_quiet_step (fail))
            refine wpQuiet_nil ?_
            rintro A5 ⟨zz, hz⟩
            generalize hTT : (if 100000 < Vv + 1 then (100000 : Int) else Vv + 1) = Vu
            have VHU : Hid (ageP 1 Vv = Vu) := hTT
            have hbR : Below A4.heap.size A4 A5 := hz ▸ zz.ok
            have HOA5 := Lib.hid (arrK.ownBelow HOA4.out hbR)
            have pA5 := keep_block hbR pA4 (lt_of_block pA4)
            have qA5 := keep_block hbR qA4 (lt_of_block qA4)
            have HONA5 : Hid (OnlyS S w A5) := HONA4.out.trans (Below.onlyS hbR)
            clear Vz0 Vz1 hz zz hbR hTT
            obtain ⟨Vg', Vo', _, _, Vn', Vc', Ve', _, _, Vhg', _, Vhf', Vhset⟩ := hit_place HOA5.out (k := t) HTZ.out
            cases Ve'
            obtain ⟨A6, hA6⟩ : ∃ u, A5.setCell ⟨gj, oj + t, none⟩ (.int .i64 (Vu)) = u := ⟨_, rfl⟩
            have HOA6 : Hid (arrK.own A6 S [.slice a0 n0 c0, .slice (some ⟨gy, oy, none⟩) n1 c1, .slice (some ⟨gj, oj, none⟩) n2 c2] (X, y.set i 0, hitF (hitF (z.set i 0) m) t)) := by
              have := Vhset Vu
              show arrK.own A6 S _ (X, y.set i 0, (hitF (z.set i 0) m).set t (ageP 1 ((hitF (z.set i 0) m).getD t 0)))
              rw [VHV.out, VHU.out]
              exact hA6 ▸ this
            have pA6 : A6.heap[P]? = _ := hA6 ▸ keep_set pA5 (fun e => HPS.out (e ▸ Vhg'))
            have qA6 : A6.heap[w.heap.size]? = _ := hA6 ▸ keep_set qA5 (fun e => HGS.out (e ▸ Vhg'))
            have HONA6 : Hid (OnlyS S w A6) := hA6 ▸ HONA5.out.setCell Vhg' _
            clear Vhset
            go_wp2_with fail
            (try simp only [Exit.inBlock, Exit.then])
            refine bodyPost_end (v := .tuple #[]) (by simp [results, Tryd.results66]) rfl ⟨rfl, ?_, HONA6.out⟩
            rw [HE.out]
            exact HOA6.out
          case neg =>
            have dD : decide (rw < gr - 1) = false := decide_eq_false hDn
            have HE : Hid (senseF gr k la lh (x, y, z) i rw = (X, y.set i 0, hitF (z.set i 0) m)) := by
              show (_, _, _) = _
              skip
              have e1 : (if goneF la lh (x, y, z) i then spoilN x (i * (k : Int).toNat) (k : Int).toNat else x) = X := HX.out
              have e2 : hitsF gr z i rw = hitF (z.set i 0) m := by
                unfold hitsF
                simp only [if_pos HUU.out, if_neg hDn, HM.out, Nat.add_sub_cancel]
              rw [e2]
              exact congrArg (fun q => (q, y.set i 0, _)) e1
            clear hDn
            go_wp2_with fail
            (try simp only [Exit.inBlock, Exit.then])
            refine bodyPost_end (v := .tuple #[]) (by simp [results, Tryd.results66]) rfl ⟨rfl, ?_, HONA4.out⟩
            rw [HE.out]
            exact HOA4.out
        case neg =>
          have dU : decide (0 < rw) = false := decide_eq_false hU
          have HUU := Lib.hid hU
          clear hU
          by_cases hDn : rw < gr - 1
          case pos =>
            have dD : decide (rw < gr - 1) = true := decide_eq_true hDn
            obtain ⟨t, ht⟩ : ∃ t, t = i + 1 := ⟨_, rfl⟩
            have wt : IntKind.i64.wrap ((i : Int) + 1) = (t : Int) := by rw [ht]; exact (IntWalk.i64_in _ (by have := HI8.out; omega)).trans (by omega)
            have HTZ : Hid (t < (z.set i 0).length) := by show _ < _; rw [List.length_set]; have := HDN.out hDn; have := HLZ.out; omega
            have HZV : Hid (∀ v ∈ z.set i 0, AgeOk v) := age_set HZ.out i ⟨by decide, by decide⟩
            have HE : Hid (senseF gr k la lh (x, y, z) i rw = (X, y.set i 0, hitF (z.set i 0) t)) := by
              show (_, _, _) = _
              rw [ht]
              have e1 : (if goneF la lh (x, y, z) i then spoilN x (i * (k : Int).toNat) (k : Int).toNat else x) = X := HX.out
              have e2 : hitsF gr z i rw = hitF (z.set i 0)  (i + 1) := by
                unfold hitsF
                simp only [if_neg HUU.out, if_pos hDn]
              rw [e2]
              exact congrArg (fun q => (q, y.set i 0, _)) e1
            clear hDn ht
            go_wp2_with fail
            clear p0 p1 p2 r0 r1 r2
            clear s0 s1 s2 s3
            obtain ⟨Vg, Vo, _, _, Vn, Vc, Ve, Vhin, _, Vhg, Vhc, _, _⟩ := hit_place HOA2.out (k := t) HTZ.out
            cases Ve
            obtain ⟨Vv, Vhv⟩ : ∃ v, (z.set i 0).getD t 0 = v := ⟨_, rfl⟩
            have Va : 0 ≤ Vv ∧ Vv ≤ 100000 := Vhv ▸ age_getD HZV.out t
            have Vhc' : A2.cell? ⟨gj, oj + t, none⟩ = some (.int .i64 Vv) := Vhv ▸ Vhc
            have Vw : IntKind.i64.wrap (Vv + 1) = Vv + 1 := IntWalk.i64_in _ (by omega)
            obtain ⟨Vt0, Vt1, Vt2⟩ := cells3 pA2
            have Vz0 := fun q : Later A2 => q.cell Vt2
            have Vz1 := fun q : Later A2 => q.cell Vhc'
            have VHV := Lib.hid Vhv
            clear Vhc Vhc' Vt0 Vt1 Vt2 Vhv Va
            refine wp_region_later_tail 16 (by kernel_rfl) (by kernel_rfl) ?_
            simp only [List.take_succ_cons, List.take_zero, List.drop_succ_cons, List.drop_zero]
            repeat (go_big_quiet_step (fail))
            refine wpQuiet_nil ?_
            rintro A5 ⟨zz, hz⟩
            generalize hTT : (if 100000 < Vv + 1 then (100000 : Int) else Vv + 1) = Vu
            have VHU : Hid (ageP 1 Vv = Vu) := hTT
            have hbR : Below A2.heap.size A2 A5 := hz ▸ zz.ok
            have HOA5 := Lib.hid (arrK.ownBelow HOA2.out hbR)
            have pA5 := keep_block hbR pA2 (lt_of_block pA2)
            have qA5 := keep_block hbR qA2 (lt_of_block qA2)
            have HONA5 : Hid (OnlyS S w A5) := HONA2.out.trans (Below.onlyS hbR)
            clear Vz0 Vz1 hz zz hbR hTT
            obtain ⟨Vg', Vo', _, _, Vn', Vc', Ve', _, _, Vhg', _, Vhf', Vhset⟩ := hit_place HOA5.out (k := t) HTZ.out
            cases Ve'
            obtain ⟨A6, hA6⟩ : ∃ u, A5.setCell ⟨gj, oj + t, none⟩ (.int .i64 (Vu)) = u := ⟨_, rfl⟩
            have HOA6 : Hid (arrK.own A6 S [.slice a0 n0 c0, .slice (some ⟨gy, oy, none⟩) n1 c1, .slice (some ⟨gj, oj, none⟩) n2 c2] (X, y.set i 0, hitF (z.set i 0) t)) := by
              have := Vhset Vu
              show arrK.own A6 S _ (X, y.set i 0, (z.set i 0).set t (ageP 1 ((z.set i 0).getD t 0)))
              rw [VHV.out, VHU.out]
              exact hA6 ▸ this
            have pA6 : A6.heap[P]? = _ := hA6 ▸ keep_set pA5 (fun e => HPS.out (e ▸ Vhg'))
            have qA6 : A6.heap[w.heap.size]? = _ := hA6 ▸ keep_set qA5 (fun e => HGS.out (e ▸ Vhg'))
            have HONA6 : Hid (OnlyS S w A6) := hA6 ▸ HONA5.out.setCell Vhg' _
            clear Vhset
            go_wp2_with fail
            (try simp only [Exit.inBlock, Exit.then])
            refine bodyPost_end (v := .tuple #[]) (by simp [results, Tryd.results66]) rfl ⟨rfl, ?_, HONA6.out⟩
            rw [HE.out]
            exact HOA6.out
          case neg =>
            have dD : decide (rw < gr - 1) = false := decide_eq_false hDn
            have HE : Hid (senseF gr k la lh (x, y, z) i rw = (X, y.set i 0, z.set i 0)) := by
              show (_, _, _) = _
              skip
              have e1 : (if goneF la lh (x, y, z) i then spoilN x (i * (k : Int).toNat) (k : Int).toNat else x) = X := HX.out
              have e2 : hitsF gr z i rw = z.set i 0 := by
                unfold hitsF
                simp only [if_neg HUU.out, if_neg hDn]
              rw [e2]
              exact congrArg (fun q => (q, y.set i 0, _)) e1
            clear hDn
            go_wp2_with fail
            (try simp only [Exit.inBlock, Exit.then])
            refine bodyPost_end (v := .tuple #[]) (by simp [results, Tryd.results66]) rfl ⟨rfl, ?_, HONA2.out⟩
            rw [HE.out]
            exact HOA2.out
      have hI : decide ((k : Int) < (D : Int)) = true := decide_eq_true (by omega)
      have wk : IntKind.i64.wrap ((k : Int) + 1) = (k : Int) + 1 := IntWalk.i64_in _ (by omega)
      obtain ⟨j, hj⟩ : ∃ j, bb + k = j := ⟨_, rfl⟩
      have HJ := Lib.hid hj
      have wj : IntKind.i64.wrap ((bb : Int) + (k : Int)) = (j : Int) := by
        have e : (bb : Int) + (k : Int) = (j : Int) := by omega
        rw [e]
        exact IntWalk.i64_in _ (by omega)
      have hjl : j < x.length := by have := HCL.out; have := HBB.out; omega
      obtain ⟨c, hc⟩ : ∃ c, x.getD j ([], false) = c := ⟨_, rfl⟩
      have hcm : c ∈ x := by rw [← hc, List.getD_eq_getElem?_getD, List.getElem?_eq_getElem hjl]; exact List.getElem_mem _
      have hsym := HSY.out c hcm
      obtain ⟨s, pz⟩ := c
      have hs11 : (s.length : Int) = 11 := hsym.2
      have hc2 : (spoilN x bb k).getD j ([], false) = (s, pz) := (spoilN_far _ (Or.inr (by omega))).trans hc
      obtain ⟨gA, oA, nA, cA, _, _, aS, nS, kS, T, eA, hjn, hgA, hnm, hnS, hcell, hT, hoS, hback⟩ := cell_place HOwr.out (j := j) (by show _ < (spoilN x bb k).length; rw [spoilN_length]; exact hjl) hc2
      cases eA
      obtain ⟨gs, os, rfl, hgs, hcs0, hfs0, _, _⟩ := ints_place hoS (k := 0) (by show 0 < s.length; omega)
      have hgsS : gs ∈ S := (hT gs hgs).1
      obtain ⟨p0, p1, p2⟩ := cells3 pwr
      have z0 := fun q : Later wr => q.cell p0
      have z1 := fun q : Later wr => q.cell x3
      have z2 := fun q : Later wr => q.cell hcell
      have HBK := Lib.hid hback
      have HOS := Lib.hid hoS
      have HT := Lib.hid hT
      have HSYM := Lib.hid hsym
      have HC2 := Lib.hid hc2
      clear hback hoS hT hsym hcs0 hfs0 hcell hcm hc hc2 p0 p1 p2 x0 x1 x2
      go_wp2_with fail
      refine wp_region_later (by kernel_rfl) (by kernel_rfl) ?_
      repeat (go_big_quiet_step (fail))
      refine wpQuiet_nil ?_
      rintro R0 ⟨zz, hz⟩
      have hbR : Below wr.heap.size wr R0 := hz ▸ zz.ok
      clear z0 z1 z2 hz zz x3
      have HOS2 := Lib.hid (intsK.ownBelow HOS.out hbR)
      have pR0 := keep_block hbR pwr (lt_of_block pwr)
      have qR0 := keep_block hbR qwr (lt_of_block qwr)
      have HNR : Hid (OnlyS S B0 R0) := HON.out.trans (Below.onlyS hbR)
      have HBK2 : Hid (∀ w' y', OnlyS T R0 w' → intsK.own w' T [.slice (some ⟨gs, os, none⟩) nS kS] y' → arrK.own w' S _ ((spoilN x bb k).set j (y', pz), y, z)) := fun w' y' ho hy => HBK.out w' y' ((Below.onlyS hbR).trans ho) hy
      obtain ⟨Y0, hY0⟩ : ∃ Y0 : Nat, s.getD 0 0 = (Y0 : Int) ∧ Y0 < 16 := by
        have := HSYM.out.1 (s.getD 0 0) (by rw [List.getD_eq_getElem?_getD, List.getElem?_eq_getElem (by omega)]; exact List.getElem_mem _)
        exact ⟨(s.getD 0 0).toNat, by have h1 := this.1; have h2 := this.2; omega, by have h1 := this.1; have h2 := this.2; omega⟩
      obtain ⟨Y1, hY1⟩ : ∃ Y1 : Nat, s.getD 1 0 = (Y1 : Int) ∧ Y1 < 16 := by
        have := HSYM.out.1 (s.getD 1 0) (by rw [List.getD_eq_getElem?_getD, List.getElem?_eq_getElem (by omega)]; exact List.getElem_mem _)
        exact ⟨(s.getD 1 0).toNat, by have h1 := this.1; have h2 := this.2; omega, by have h1 := this.1; have h2 := this.2; omega⟩
      have x5 : bits .xor .i64 (Y0 : Int) 5 = xr (Y0 : Int) 5 := i64_xor_nat Y0 5 (by omega) (by decide)
      have x10 : bits .xor .i64 (Y1 : Int) 10 = xr (Y1 : Int) 10 := i64_xor_nat Y1 10 (by omega) (by decide)
      obtain ⟨_, _, e0, _, hc0, hf0, _, hset0⟩ := ints_place HOS2.out (k := 0) (by show 0 < s.length; omega)
      cases e0
      rw [hY0.1] at hc0
      obtain ⟨R1, hR1⟩ : ∃ u, R0.setCell ⟨gs, os, none⟩ (.int .i64 (xr (Y0 : Int) 5)) = u := ⟨_, rfl⟩
      have HO1 : Hid (intsK.own R1 T _ (s.set 0 (xr (Y0 : Int) 5))) := hR1 ▸ hset0 (xr (Y0 : Int) 5)
      have hN1 : OnlyS T R0 R1 := hR1 ▸ (OnlyS.refl T R0).setCell (p := ⟨gs, os, none⟩) hgs _
      obtain ⟨_, _, e1, _, hc1, hf1, _, hset1⟩ := ints_place HO1.out (k := 1) (by show 1 < (s.set 0 _).length; rw [List.length_set]; omega)
      cases e1
      have hgd : (s.set 0 (xr (Y0 : Int) 5)).getD 1 0 = (Y1 : Int) := by rw [List.getD_eq_getElem?_getD, List.getElem?_set_ne (by decide), ← List.getD_eq_getElem?_getD]; exact hY1.1
      rw [hgd] at hc1
      obtain ⟨R2, hR2⟩ : ∃ u, R1.setCell ⟨gs, os + 1, none⟩ (.int .i64 (xr (Y1 : Int) 10)) = u := ⟨_, rfl⟩
      have hO2 : intsK.own R2 T [.slice (some ⟨gs, os, none⟩) nS kS] (spoil s) := by
        unfold spoil
        rw [hY0.1, hY1.1]
        exact hR2 ▸ hset1 (xr (Y1 : Int) 10)
      have hN2 : OnlyS T R0 R2 := hR2 ▸ hN1.setCell (p := ⟨gs, os + 1, none⟩) hgs _
      have HEND : Hid (arrK.own R2 S [.slice (some ⟨gA, oA, none⟩) n0 c0, .slice a1 n1 c1, .slice a2 n2 c2] (spoilN x bb (k + 1), y, z)) := by
        have := HBK2.out R2 _ hN2 hO2
        show arrK.own R2 S [.slice (some ⟨gA, oA, none⟩) n0 c0, .slice a1 n1 c1, .slice a2 n2 c2] ((spoilN x bb k).set (bb + k) (spoil ((spoilN x bb k).getD (bb + k) ([], false)).1, ((spoilN x bb k).getD (bb + k) ([], false)).2), y, z)
        rw [HJ.out, HC2.out]
        exact this
      have HNE : Hid (OnlyS S B0 R2) := HNR.out.trans (hN2.mono (fun b hb => (HT.out b hb).1))
      have hlS : nS = 11 := by omega
      have hc0' : R0.cell? ⟨gs, os, none⟩ = some (.int .i64 (Y0 : Int)) := hc0
      have hf0' : R0.frozen? ⟨gs, os, none⟩ = false := hf0
      clear hset0 hset1 hO2 hN1 hN2 hgd hbR hc0 hf0 hY0 hY1
      go_wp2_with fail
      go_roundw
      case rel => exact ⟨k + 1, by omega, by go_num, HEND.out, HNE.out⟩
      case measure => simp [intOf]; omega
  case neg =>
    have KG := Lib.hid (decide_eq_false hG)
    clear x0 x1 t0 t1 t2 y0 y1
    go_enter Tryd.func66, Tryd.ntmps66
    go_wp2_with fail
    refine wp_region_later (by kernel_rfl) (by kernel_rfl) ?_
    repeat (go_big_quiet_step (first | (go_at_call 97; exact Gives.later _ (specGone_is ga gb gr D la lh (arrK.below (arrK.read HOw1.out) (Later.ok _)) HIY.out HIZ.out false KG.out))))
    refine wpQuiet_nil ?_
    rintro B0 ⟨zz, hz⟩
    have hbR : Below w1.heap.size w1 B0 := hz ▸ zz.ok
    have HOB0 := Lib.hid (arrK.ownBelow HOw1.out hbR)
    have pB0 := keep_block hbR pw1 (lt_of_block pw1)
    have qB0 := keep_block hbR qw1 (lt_of_block qw1)
    have HONB0 : Hid (OnlyS S w B0) := HONw1.out.trans (Below.onlyS hbR)
    clear zx0 zx1 zx2 zx3 zy0 zy1 zt0 zt1 zt2 x2 x3 hz zz hbR
    obtain ⟨X, hX⟩ : ∃ X, x = X := ⟨_, rfl⟩
    have HX : Hid ((if goneF la lh (x, y, z) i then spoilN x (i * (D : Int).toNat) (D : Int).toNat else x) = X) := (if_neg hG).trans hX
    rw [hX] at HOB0
    clear hG hX
    obtain ⟨gy, oy, _, ny, cy, _, ey, hiny, _, hgy, _, hfy, hsety⟩ := age_place HOB0.out (k := i) HIY.out
    cases ey
    obtain ⟨A1, hA1⟩ : ∃ u, B0.setCell ⟨gy, oy + i, none⟩ (.int .i64 0) = u := ⟨_, rfl⟩
    have HOA1 : Hid (arrK.own A1 S _ (X, y.set i 0, z)) := hA1 ▸ hsety 0
    have pA1 : A1.heap[P]? = _ := hA1 ▸ keep_set pB0 (fun e => HPS.out (e ▸ hgy))
    have qA1 : A1.heap[w.heap.size]? = _ := hA1 ▸ keep_set qB0 (fun e => HGS.out (e ▸ hgy))
    have HONA1 : Hid (OnlyS S w A1) := hA1 ▸ HONB0.out.setCell hgy _
    clear hsety
    obtain ⟨gj, oj, _, _, nj, cj, ej, hinj, _, hgj, _, hfj, hsetj⟩ := hit_place HOA1.out (k := i) HIZ.out
    cases ej
    obtain ⟨A2, hA2⟩ : ∃ u, A1.setCell ⟨gj, oj + i, none⟩ (.int .i64 (0)) = u := ⟨_, rfl⟩
    have HOA2 : Hid (arrK.own A2 S _ (X, y.set i 0, z.set i 0)) := hA2 ▸ hsetj (0)
    have pA2 : A2.heap[P]? = _ := hA2 ▸ keep_set pA1 (fun e => HPS.out (e ▸ hgj))
    have qA2 : A2.heap[w.heap.size]? = _ := hA2 ▸ keep_set qA1 (fun e => HGS.out (e ▸ hgj))
    have HONA2 : Hid (OnlyS S w A2) := hA2 ▸ HONA1.out.setCell hgj _
    clear hsetj
    obtain ⟨p0, p1, p2⟩ := cells3 pB0
    obtain ⟨r0, r1, r2⟩ := cells3 pA1
    obtain ⟨s0, s1, s2, s3⟩ := cells4 qA2
    by_cases hU : 0 < rw
    case pos =>
      have dU : decide (0 < rw) = true := decide_eq_true hU
      obtain ⟨m, hm⟩ : ∃ m, i = m + 1 := ⟨i - 1, by have := HUP.out hU; omega⟩
      have HM := Lib.hid hm
      have wm : IntKind.i64.wrap ((i : Int) - 1) = (m : Int) := by rw [hm]; exact (IntWalk.i64_in _ (by have := HI8.out; omega)).trans (by omega)
      have HMZ : Hid (m < (z.set i 0).length) := by show _ < _; rw [List.length_set]; have := HIZ.out; omega
      have HZU : Hid (∀ v ∈ z.set i 0, AgeOk v) := age_set HZ.out i ⟨by decide, by decide⟩
      have HUU := Lib.hid hU
      clear hm hU
      go_wp2_with fail
      clear p0 p1 p2 r0 r1 r2
      obtain ⟨Ug, Uo, _, _, Un, Uc, Ue, Uhin, _, Uhg, Uhc, _, _⟩ := hit_place HOA2.out (k := m) HMZ.out
      cases Ue
      obtain ⟨Uv, Uhv⟩ : ∃ v, (z.set i 0).getD m 0 = v := ⟨_, rfl⟩
      have Ua : 0 ≤ Uv ∧ Uv ≤ 100000 := Uhv ▸ age_getD HZU.out m
      have Uhc' : A2.cell? ⟨gj, oj + m, none⟩ = some (.int .i64 Uv) := Uhv ▸ Uhc
      have Uw : IntKind.i64.wrap (Uv + 1) = Uv + 1 := IntWalk.i64_in _ (by omega)
      obtain ⟨Ut0, Ut1, Ut2⟩ := cells3 pA2
      have Uz0 := fun q : Later A2 => q.cell Ut2
      have Uz1 := fun q : Later A2 => q.cell Uhc'
      have UHV := Lib.hid Uhv
      clear Uhc Uhc' Ut0 Ut1 Ut2 Uhv Ua
      refine wp_region_later_tail 16 (by kernel_rfl) (by kernel_rfl) ?_
      simp only [List.take_succ_cons, List.take_zero, List.drop_succ_cons, List.drop_zero]
      repeat (go_big_quiet_step (fail))
      refine wpQuiet_nil ?_
      rintro A3 ⟨zz, hz⟩
      generalize hTT : (if 100000 < Uv + 1 then (100000 : Int) else Uv + 1) = Uu
      have UHU : Hid (ageP 1 Uv = Uu) := hTT
      have hbR : Below A2.heap.size A2 A3 := hz ▸ zz.ok
      have HOA3 := Lib.hid (arrK.ownBelow HOA2.out hbR)
      have pA3 := keep_block hbR pA2 (lt_of_block pA2)
      have qA3 := keep_block hbR qA2 (lt_of_block qA2)
      have HONA3 : Hid (OnlyS S w A3) := HONA2.out.trans (Below.onlyS hbR)
      clear Uz0 Uz1 hz zz hbR hTT
      obtain ⟨Ug', Uo', _, _, Un', Uc', Ue', _, _, Uhg', _, Uhf', Uhset⟩ := hit_place HOA3.out (k := m) HMZ.out
      cases Ue'
      obtain ⟨A4, hA4⟩ : ∃ u, A3.setCell ⟨gj, oj + m, none⟩ (.int .i64 (Uu)) = u := ⟨_, rfl⟩
      have HOA4 : Hid (arrK.own A4 S [.slice a0 n0 c0, .slice (some ⟨gy, oy, none⟩) n1 c1, .slice (some ⟨gj, oj, none⟩) n2 c2] (X, y.set i 0, hitF (z.set i 0) m)) := by
        have := Uhset Uu
        show arrK.own A4 S _ (X, y.set i 0, (z.set i 0).set m (ageP 1 ((z.set i 0).getD m 0)))
        rw [UHV.out, UHU.out]
        exact hA4 ▸ this
      have pA4 : A4.heap[P]? = _ := hA4 ▸ keep_set pA3 (fun e => HPS.out (e ▸ Uhg'))
      have qA4 : A4.heap[w.heap.size]? = _ := hA4 ▸ keep_set qA3 (fun e => HGS.out (e ▸ Uhg'))
      have HONA4 : Hid (OnlyS S w A4) := hA4 ▸ HONA3.out.setCell Uhg' _
      clear Uhset
      clear s0 s1 s2 s3
      obtain ⟨s0, s1, s2, s3⟩ := cells4 qA4
      by_cases hDn : rw < gr - 1
      case pos =>
        have dD : decide (rw < gr - 1) = true := decide_eq_true hDn
        obtain ⟨t, ht⟩ : ∃ t, t = i + 1 := ⟨_, rfl⟩
        have wt : IntKind.i64.wrap ((i : Int) + 1) = (t : Int) := by rw [ht]; exact (IntWalk.i64_in _ (by have := HI8.out; omega)).trans (by omega)
        have HTZ : Hid (t < (hitF (z.set i 0) m).length) := by show _ < _; simp only [hitF, List.length_set]; have := HDN.out hDn; have := HLZ.out; omega
        have HZV : Hid (∀ v ∈ hitF (z.set i 0) m, AgeOk v) := age_hit HZU.out m
        have HE : Hid (senseF gr D la lh (x, y, z) i rw = (X, y.set i 0, hitF (hitF (z.set i 0) m) t)) := by
          show (_, _, _) = _
          rw [ht]
          have e1 : (if goneF la lh (x, y, z) i then spoilN x (i * (D : Int).toNat) (D : Int).toNat else x) = X := HX.out
          have e2 : hitsF gr z i rw = hitF (hitF (z.set i 0) m)  (i + 1) := by
            unfold hitsF
            simp only [if_pos HUU.out, if_pos hDn, HM.out, Nat.add_sub_cancel]
          rw [e2]
          exact congrArg (fun q => (q, y.set i 0, _)) e1
        clear hDn ht
        go_wp2_with fail
        clear s0 s1 s2 s3
        obtain ⟨Vg, Vo, _, _, Vn, Vc, Ve, Vhin, _, Vhg, Vhc, _, _⟩ := hit_place HOA4.out (k := t) HTZ.out
        cases Ve
        obtain ⟨Vv, Vhv⟩ : ∃ v, (hitF (z.set i 0) m).getD t 0 = v := ⟨_, rfl⟩
        have Va : 0 ≤ Vv ∧ Vv ≤ 100000 := Vhv ▸ age_getD HZV.out t
        have Vhc' : A4.cell? ⟨gj, oj + t, none⟩ = some (.int .i64 Vv) := Vhv ▸ Vhc
        have Vw : IntKind.i64.wrap (Vv + 1) = Vv + 1 := IntWalk.i64_in _ (by omega)
        obtain ⟨Vt0, Vt1, Vt2⟩ := cells3 pA4
        have Vz0 := fun q : Later A4 => q.cell Vt2
        have Vz1 := fun q : Later A4 => q.cell Vhc'
        have VHV := Lib.hid Vhv
        clear Vhc Vhc' Vt0 Vt1 Vt2 Vhv Va
        refine wp_region_later_tail 16 (by kernel_rfl) (by kernel_rfl) ?_
        simp only [List.take_succ_cons, List.take_zero, List.drop_succ_cons, List.drop_zero]
        repeat (go_big_quiet_step (fail))
        refine wpQuiet_nil ?_
        rintro A5 ⟨zz, hz⟩
        generalize hTT : (if 100000 < Vv + 1 then (100000 : Int) else Vv + 1) = Vu
        have VHU : Hid (ageP 1 Vv = Vu) := hTT
        have hbR : Below A4.heap.size A4 A5 := hz ▸ zz.ok
        have HOA5 := Lib.hid (arrK.ownBelow HOA4.out hbR)
        have pA5 := keep_block hbR pA4 (lt_of_block pA4)
        have qA5 := keep_block hbR qA4 (lt_of_block qA4)
        have HONA5 : Hid (OnlyS S w A5) := HONA4.out.trans (Below.onlyS hbR)
        clear Vz0 Vz1 hz zz hbR hTT
        obtain ⟨Vg', Vo', _, _, Vn', Vc', Ve', _, _, Vhg', _, Vhf', Vhset⟩ := hit_place HOA5.out (k := t) HTZ.out
        cases Ve'
        obtain ⟨A6, hA6⟩ : ∃ u, A5.setCell ⟨gj, oj + t, none⟩ (.int .i64 (Vu)) = u := ⟨_, rfl⟩
        have HOA6 : Hid (arrK.own A6 S [.slice a0 n0 c0, .slice (some ⟨gy, oy, none⟩) n1 c1, .slice (some ⟨gj, oj, none⟩) n2 c2] (X, y.set i 0, hitF (hitF (z.set i 0) m) t)) := by
          have := Vhset Vu
          show arrK.own A6 S _ (X, y.set i 0, (hitF (z.set i 0) m).set t (ageP 1 ((hitF (z.set i 0) m).getD t 0)))
          rw [VHV.out, VHU.out]
          exact hA6 ▸ this
        have pA6 : A6.heap[P]? = _ := hA6 ▸ keep_set pA5 (fun e => HPS.out (e ▸ Vhg'))
        have qA6 : A6.heap[w.heap.size]? = _ := hA6 ▸ keep_set qA5 (fun e => HGS.out (e ▸ Vhg'))
        have HONA6 : Hid (OnlyS S w A6) := hA6 ▸ HONA5.out.setCell Vhg' _
        clear Vhset
        go_wp2_with fail
        (try simp only [Exit.inBlock, Exit.then])
        refine bodyPost_end (v := .tuple #[]) (by simp [results, Tryd.results66]) rfl ⟨rfl, ?_, HONA6.out⟩
        rw [HE.out]
        exact HOA6.out
      case neg =>
        have dD : decide (rw < gr - 1) = false := decide_eq_false hDn
        have HE : Hid (senseF gr D la lh (x, y, z) i rw = (X, y.set i 0, hitF (z.set i 0) m)) := by
          show (_, _, _) = _
          skip
          have e1 : (if goneF la lh (x, y, z) i then spoilN x (i * (D : Int).toNat) (D : Int).toNat else x) = X := HX.out
          have e2 : hitsF gr z i rw = hitF (z.set i 0) m := by
            unfold hitsF
            simp only [if_pos HUU.out, if_neg hDn, HM.out, Nat.add_sub_cancel]
          rw [e2]
          exact congrArg (fun q => (q, y.set i 0, _)) e1
        clear hDn
        go_wp2_with fail
        (try simp only [Exit.inBlock, Exit.then])
        refine bodyPost_end (v := .tuple #[]) (by simp [results, Tryd.results66]) rfl ⟨rfl, ?_, HONA4.out⟩
        rw [HE.out]
        exact HOA4.out
    case neg =>
      have dU : decide (0 < rw) = false := decide_eq_false hU
      have HUU := Lib.hid hU
      clear hU
      by_cases hDn : rw < gr - 1
      case pos =>
        have dD : decide (rw < gr - 1) = true := decide_eq_true hDn
        obtain ⟨t, ht⟩ : ∃ t, t = i + 1 := ⟨_, rfl⟩
        have wt : IntKind.i64.wrap ((i : Int) + 1) = (t : Int) := by rw [ht]; exact (IntWalk.i64_in _ (by have := HI8.out; omega)).trans (by omega)
        have HTZ : Hid (t < (z.set i 0).length) := by show _ < _; rw [List.length_set]; have := HDN.out hDn; have := HLZ.out; omega
        have HZV : Hid (∀ v ∈ z.set i 0, AgeOk v) := age_set HZ.out i ⟨by decide, by decide⟩
        have HE : Hid (senseF gr D la lh (x, y, z) i rw = (X, y.set i 0, hitF (z.set i 0) t)) := by
          show (_, _, _) = _
          rw [ht]
          have e1 : (if goneF la lh (x, y, z) i then spoilN x (i * (D : Int).toNat) (D : Int).toNat else x) = X := HX.out
          have e2 : hitsF gr z i rw = hitF (z.set i 0)  (i + 1) := by
            unfold hitsF
            simp only [if_neg HUU.out, if_pos hDn]
          rw [e2]
          exact congrArg (fun q => (q, y.set i 0, _)) e1
        clear hDn ht
        go_wp2_with fail
        clear p0 p1 p2 r0 r1 r2
        clear s0 s1 s2 s3
        obtain ⟨Vg, Vo, _, _, Vn, Vc, Ve, Vhin, _, Vhg, Vhc, _, _⟩ := hit_place HOA2.out (k := t) HTZ.out
        cases Ve
        obtain ⟨Vv, Vhv⟩ : ∃ v, (z.set i 0).getD t 0 = v := ⟨_, rfl⟩
        have Va : 0 ≤ Vv ∧ Vv ≤ 100000 := Vhv ▸ age_getD HZV.out t
        have Vhc' : A2.cell? ⟨gj, oj + t, none⟩ = some (.int .i64 Vv) := Vhv ▸ Vhc
        have Vw : IntKind.i64.wrap (Vv + 1) = Vv + 1 := IntWalk.i64_in _ (by omega)
        obtain ⟨Vt0, Vt1, Vt2⟩ := cells3 pA2
        have Vz0 := fun q : Later A2 => q.cell Vt2
        have Vz1 := fun q : Later A2 => q.cell Vhc'
        have VHV := Lib.hid Vhv
        clear Vhc Vhc' Vt0 Vt1 Vt2 Vhv Va
        refine wp_region_later_tail 16 (by kernel_rfl) (by kernel_rfl) ?_
        simp only [List.take_succ_cons, List.take_zero, List.drop_succ_cons, List.drop_zero]
        repeat (go_big_quiet_step (fail))
        refine wpQuiet_nil ?_
        rintro A5 ⟨zz, hz⟩
        generalize hTT : (if 100000 < Vv + 1 then (100000 : Int) else Vv + 1) = Vu
        have VHU : Hid (ageP 1 Vv = Vu) := hTT
        have hbR : Below A2.heap.size A2 A5 := hz ▸ zz.ok
        have HOA5 := Lib.hid (arrK.ownBelow HOA2.out hbR)
        have pA5 := keep_block hbR pA2 (lt_of_block pA2)
        have qA5 := keep_block hbR qA2 (lt_of_block qA2)
        have HONA5 : Hid (OnlyS S w A5) := HONA2.out.trans (Below.onlyS hbR)
        clear Vz0 Vz1 hz zz hbR hTT
        obtain ⟨Vg', Vo', _, _, Vn', Vc', Ve', _, _, Vhg', _, Vhf', Vhset⟩ := hit_place HOA5.out (k := t) HTZ.out
        cases Ve'
        obtain ⟨A6, hA6⟩ : ∃ u, A5.setCell ⟨gj, oj + t, none⟩ (.int .i64 (Vu)) = u := ⟨_, rfl⟩
        have HOA6 : Hid (arrK.own A6 S [.slice a0 n0 c0, .slice (some ⟨gy, oy, none⟩) n1 c1, .slice (some ⟨gj, oj, none⟩) n2 c2] (X, y.set i 0, hitF (z.set i 0) t)) := by
          have := Vhset Vu
          show arrK.own A6 S _ (X, y.set i 0, (z.set i 0).set t (ageP 1 ((z.set i 0).getD t 0)))
          rw [VHV.out, VHU.out]
          exact hA6 ▸ this
        have pA6 : A6.heap[P]? = _ := hA6 ▸ keep_set pA5 (fun e => HPS.out (e ▸ Vhg'))
        have qA6 : A6.heap[w.heap.size]? = _ := hA6 ▸ keep_set qA5 (fun e => HGS.out (e ▸ Vhg'))
        have HONA6 : Hid (OnlyS S w A6) := hA6 ▸ HONA5.out.setCell Vhg' _
        clear Vhset
        go_wp2_with fail
        (try simp only [Exit.inBlock, Exit.then])
        refine bodyPost_end (v := .tuple #[]) (by simp [results, Tryd.results66]) rfl ⟨rfl, ?_, HONA6.out⟩
        rw [HE.out]
        exact HOA6.out
      case neg =>
        have dD : decide (rw < gr - 1) = false := decide_eq_false hDn
        have HE : Hid (senseF gr D la lh (x, y, z) i rw = (X, y.set i 0, z.set i 0)) := by
          show (_, _, _) = _
          skip
          have e1 : (if goneF la lh (x, y, z) i then spoilN x (i * (D : Int).toNat) (D : Int).toNat else x) = X := HX.out
          have e2 : hitsF gr z i rw = z.set i 0 := by
            unfold hitsF
            simp only [if_neg HUU.out, if_neg hDn]
          rw [e2]
          exact congrArg (fun q => (q, y.set i 0, _)) e1
        clear hDn
        go_wp2_with fail
        (try simp only [Exit.inBlock, Exit.then])
        refine bodyPost_end (v := .tuple #[]) (by simp [results, Tryd.results66]) rfl ⟨rfl, ?_, HONA2.out⟩
        rw [HE.out]
        exact HOA2.out

end Go.Proofs.YtfpfgaifhmgpiaaDoor
