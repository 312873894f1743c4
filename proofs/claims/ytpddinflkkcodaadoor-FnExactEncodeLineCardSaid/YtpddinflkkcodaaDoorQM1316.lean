/-
  Texts of one proof, merged: RdyC, RdyJ, CodI, LinI, CodW, CodK, CodF, LinW, LinF, CodS, LinL, CodQ, CopyR.
-/
import Derived.Test.YtpddinflkkcodaaDoorQM131
import Derived.Test.YtpddinflkkcodaaDoorQM132
import Derived.Test.YtpddinflkkcodaaDoorQM133
import Derived.Test.YtpddinflkkcodaaDoorQM134
import Derived.Test.YtpddinflkkcodaaDoorQM135
import Derived.Test.YtpddinflkkcodaaDoorQM136
import Derived.Test.YtpddinflkkcodaaDoorQM138
import Derived.Test.YtpddinflkkcodaaDoorQM139
import Derived.Test.YtpddinflkkcodaaDoorQM1312
import Derived.Test.YtpddinflkkcodaaDoorQM1313
import Derived.Test.YtpddinflkkcodaaDoorQM1315
import Derived.Laws.CopyOwn
import Derived.Maps.AppendAt
namespace Go.Proofs.YtpddinflkkcodaaDoor
open Go.RowKit Go.PlainAid

set_option linter.unusedVariables false

theorem RowI.src {w : World} {ad : Addr} {l : List Int} (h : RowI w (some ad) l) : ∀ j u, (l.map (Value.int .i64))[j]? = some u → w.cell? (ad.add j) = some u := by
  rcases h with rfl | ⟨b, off, hb, h⟩
  · intro j u hu; simp at hu
  · cases hb
    intro j u hu
    rw [List.getElem?_map] at hu
    cases hl : l[j]? with
    | none => rw [hl] at hu; cases hu
    | some z =>
      rw [hl] at hu
      cases hu
      have hj : j < l.length := by
        rcases Nat.lt_or_ge j l.length with h1 | h1
        · exact h1
        · rw [List.getElem?_eq_none h1] at hl; cases hl
      have h2 := h j hj
      rw [List.getD_eq_getElem?_getD, hl] at h2
      unfold Addr.add
      by_cases h0 : j = 0
      · subst h0
        rw [if_pos rfl]
        exact h2
      · rw [if_neg h0]
        exact h2

/-- Holds behind operation L. -/
def FromW (L : Nat) (F : World → Prop) (listed : Array Bool) (u : World) : Prop := listed.getD L false = true → F u

theorem FromW.zero (L : Nat) (F : World → Prop) (n : Nat) (u : World) : FromW L F (Array.replicate n false) u := fun h => by rw [getD_replicate_false] at h; cases h

theorem FromW.no {L i : Nat} {F : World → Prop} {listed : Array Bool} {u : World} (h : listed.getD L false = false) (hi : i ≠ L) : FromW L F (listed.setIfInBounds i true) u := fun h2 => by rw [getD_set_ne false hi, h] at h2; cases h2

/-- Operation L comes last. -/
def AllW (L : Nat) (listed : Array Bool) : Prop := ∀ j, j < L → Aft L j listed

theorem AllW.keep {L i : Nat} {listed : Array Bool} (h : AllW L listed) (hi : i ≠ L) : AllW L (listed.setIfInBounds i true) := fun j hj => (h j hj).keep hi

/-- The rows that operations i and j answered lie apart, till operation m. -/
def AptR (i j m n1 n2 : Nat) (listed : Array Bool) (x : Nat → Value) : Prop := listed.getD j false = true → listed.getD m false = false → ∃ aa ca ab cb, x i = .slice aa n1 ca ∧ x j = .slice ab n2 cb ∧ Apt aa ab

theorem AptR.zero (i j m n1 n2 n : Nat) (x : Nat → Value) : AptR i j m n1 n2 (Array.replicate n false) x := fun h => by rw [getD_replicate_false] at h; cases h

theorem AptR.keep {i j m n1 n2 : Nat} {listed : Array Bool} {x : Nat → Value} (h : AptR i j m n1 n2 listed x) {k : Nat} (hi : k ≠ i) (hj : k ≠ j) (hm : k ≠ m) (v : Value) : AptR i j m n1 n2 (listed.setIfInBounds k true) (upd x k v) := fun h1 h2 => by
  rw [getD_set_ne false hj] at h1
  rw [getD_set_ne false hm] at h2
  rw [upd_other _ _ (Ne.symm hi), upd_other _ _ (Ne.symm hj)]
  exact h h1 h2

theorem AptR.no {i j m n1 n2 : Nat} {listed : Array Bool} {x : Nat → Value} (h : listed.getD j false = false) {k : Nat} (hj : k ≠ j) (v : Value) : AptR i j m n1 n2 (listed.setIfInBounds k true) (upd x k v) := fun h1 _ => by
  rw [getD_set_ne false hj, h] at h1; cases h1

theorem AptR.new {i j m n1 n2 : Nat} {listed : Array Bool} {x : Nat → Value} {ab : Option Addr} {cb : Nat} (hij : i ≠ j) (h : ∃ aa ca, x i = .slice aa n1 ca ∧ Apt aa ab) : AptR i j m n1 n2 (listed.setIfInBounds j true) (upd x j (.slice ab n2 cb)) := fun _ _ => by
  obtain ⟨aa, ca, e1, e2⟩ := h
  exact ⟨aa, ca, ab, cb, by rw [upd_other _ _ hij]; exact e1, upd_same _ _ _, e2⟩

theorem AptR.call {i j m n1 n2 : Nat} {listed : Array Bool} {x : Nat → Value} (h : m < listed.size) : AptR i j m n1 n2 (listed.setIfInBounds m true) x := fun _ h2 => by rw [get_set_same false h] at h2; cases h2

/-- Numbers appended to a row of the call's own; where the new row lies. -/
theorem append_int {ops : Array Oper} {rest : List Oper} {o : Oper} {a : Act} {w : World} {Q : Exit → Act → World → Prop} (hgd : o.guard = none) (s x : Operand) (ho : o.op = .call { callee := .builtin .append, args := #[s, x], argTypes := #[25, 25] })
    (base : Nat) (v : Value) (n : Nat) (xs : List Int) (hs : a.eval s = v) (hown : OwnI base v xs w) (hxn : xs.length = n) (ad : Option Addr) (m c : Nat) (news : List Int) (hx : a.eval x = .slice ad m c) (hl : news.length = m) (hnc : ad = none → c = 0) (hrow : RowI w ad news) (hbig : n + m ≤ 3500000) (hbase : base ≤ w.heap.size)
    (h : ∀ v' w', OwnI base v' (xs ++ news) w' → w.grownBy w' v.ownBlock → (v'.ownBlock = v.ownBlock ∨ v'.ownBlock = some w.heap.size) → wpList Tryd.prog ops Q rest (a.put o.dst v') w') : wpList Tryd.prog ops Q (o :: rest) a w := by
  obtain ⟨i0, hi, hz0, hz1, hz2⟩ := info_parts infoI
  have hown' : w.ownsRow base 3 1 v n (xs.map (Value.int .i64)) := by
    have h2 := hown
    unfold OwnI at h2
    rw [hxn] at h2
    exact h2
  cases ad with
  | none =>
    obtain rfl : c = 0 := hnc rfl
    have hn0 : news = [] := by
      rcases hrow with h2 | ⟨_, _, h2, _⟩
      · exact h2
      · cases h2
    subst hn0
    obtain rfl : m = 0 := hl.symm
    refine wpList_append_own_none hgd s x 25 ho base 3 i0 1 Tryd.underlying25 hi v n _ hs hown' hx (h v w ?_ ⟨rfl, rfl, rfl, Nat.le_refl _, fun _ _ _ => rfl⟩ (.inl rfl))
    rw [List.append_nil]
    exact hown
  | some ad =>
    have hfl : (news.map (Value.int .i64)).length = m * 1 := by rw [List.length_map, hl, Nat.mul_one]
    refine wpList_append_own_at _ hgd s x 25 ho base 3 i0 (.int .i64 0) 1 8 Tryd.underlying25 hi hz0 hz1 hz2 rfl (by decide) v n _ hs hown' ad m c (news.map (Value.int .i64)) hx hfl (RowI.src hrow) (fun u hu => by obtain ⟨z, _, rfl⟩ := List.mem_map.1 hu; rfl) (by unfold maxLen; omega) (by omega) hbase ?_
    intro v' w' ho2 hg _ hat
    refine h v' w' ?_ hg hat
    unfold OwnI
    rw [List.length_append, hxn, hl, List.map_append]
    exact ho2

end Go.Proofs.YtpddinflkkcodaaDoor

namespace Go.Proofs.YtpddinflkkcodaaDoor
open Go.RowKit Go.PlainAid

set_option linter.unusedVariables false

/-- A row of numbers in a block of the call's own. -/
def OwnJ (B : Nat) (v : Value) (l : List Int) (w : World) : Prop :=
  ∃ a n c, v = .slice a n c ∧ l.length = n ∧ ((a = none ∧ n = 0 ∧ c = 0) ∨ ∃ g off cur, a = some ⟨g, off, none⟩ ∧ B ≤ g ∧ w.heap[g]? = some (.cells cur 3 (0, 0)) ∧ ∀ i, i < n → cur[off + i]? = some (.int .i64 (l.getD i 0)))

theorem OwnI.toJ {B n c : Nat} {a : Option Addr} {l : List Int} {w : World} (hn : l.length = n) (h : OwnI B (.slice a n c) l w) : OwnJ B (.slice a n c) l w := by
  refine ⟨a, n, c, rfl, hn, ?_⟩
  rcases h.2 with ⟨hv, h0⟩ | ⟨g, cap, cur, hv, hB, hh, _, _, hs, ht⟩
  · cases hv
    exact .inl ⟨rfl, by omega, rfl⟩
  · cases hv
    refine .inr ⟨g, 0, cur, rfl, hB, hh, fun i hi => ?_⟩
    rw [Nat.zero_add]
    have h1 : (cur.toList.take (l.length * 1))[i]? = (l.map (Value.int .i64))[i]? := by rw [ht]
    rw [List.getElem?_take_of_lt (by omega), List.getElem?_map] at h1
    rw [← Array.getElem?_toList, h1, List.getD_eq_getElem?_getD]
    cases e : l[i]? with
    | none => rw [List.getElem?_eq_none_iff] at e; omega
    | some z => rfl

theorem OwnJ.at {B n c : Nat} {a : Option Addr} {l : List Int} {w : World} (h : OwnJ B (.slice a n c) l w) {k : Nat} (hk : k < l.length) :
    ∃ g off, a = some ⟨g, off, none⟩ ∧ w.cell? ⟨g, off + k, none⟩ = some (.int .i64 (l.getD k 0)) ∧ w.frozen? ⟨g, off + k, none⟩ = false ∧ B ≤ g ∧ g < w.heap.size := by
  obtain ⟨_, _, _, hv, hl, h | ⟨g, off, cur, rfl, hB, hh, hc⟩⟩ := h
  · cases hv; omega
  · cases hv
    exact ⟨g, off, rfl, by simp only [World.cell?, hh]; exact hc k (by omega), by simp [World.frozen?, hh], hB, lt_of_block hh⟩

theorem OwnJ.row {B n c : Nat} {a : Option Addr} {l : List Int} {w : World} (h : OwnJ B (.slice a n c) l w) : RowI w a l := by
  obtain ⟨_, _, _, hv, hl, ⟨h1, h2, h3⟩ | ⟨g, off, cur, rfl, hB, hh, hc⟩⟩ := h
  · cases hv
    exact .inl (List.length_eq_zero_iff.1 (by omega))
  · cases hv
    exact .inr ⟨g, off, rfl, fun i hi => by simp only [World.cell?, hh]; exact hc i (by omega)⟩

theorem OwnJ.mono {B C : Nat} {v : Value} {l : List Int} {w : World} (h : OwnJ B v l w) (hC : C ≤ B) : OwnJ C v l w := by
  obtain ⟨a, n, c, hv, hl, h | ⟨g, off, cur, ha, hB, hh, hc⟩⟩ := h
  · exact ⟨a, n, c, hv, hl, .inl h⟩
  · exact ⟨a, n, c, hv, hl, .inr ⟨g, off, cur, ha, Nat.le_trans hC hB, hh, hc⟩⟩

theorem OwnJ.same {B n c : Nat} {a : Option Addr} {l : List Int} {w w' : World} (h : OwnJ B (.slice a n c) l w) (hk : ∀ x, a = some x → w'.heap[x.block]? = w.heap[x.block]?) : OwnJ B (.slice a n c) l w' := by
  obtain ⟨_, _, _, hv, hl, h | ⟨g, off, cur, rfl, hB, hh, hc⟩⟩ := h
  · exact ⟨_, _, _, hv, hl, .inl h⟩
  · cases hv
    exact ⟨_, _, _, rfl, hl, .inr ⟨g, off, cur, rfl, hB, (hk _ rfl).trans hh, hc⟩⟩

theorem OwnJ.lo {B n c : Nat} {a : Option Addr} {l : List Int} {w : World} (h : OwnJ B (.slice a n c) l w) : ∀ x, a = some x → B ≤ x.block ∧ x.block < w.heap.size := by
  obtain ⟨_, _, _, hv, hl, ⟨h1, _, _⟩ | ⟨g, off, cur, rfl, hB, hh, hc⟩⟩ := h
  · cases hv
    rintro x rfl
    cases h1
  · cases hv
    rintro x hx
    cases hx
    exact ⟨hB, lt_of_block hh⟩

theorem OwnJ.nil {B n c : Nat} {a : Option Addr} {l : List Int} {w : World} (h : OwnJ B (.slice a n c) l w) : a = none → c = 0 := by
  obtain ⟨_, _, _, hv, hl, ⟨h1, h2, h3⟩ | ⟨g, off, cur, rfl, hB, hh, hc⟩⟩ := h
  · cases hv
    exact fun _ => h3
  · cases hv
    intro h
    cases h

theorem OwnJ.below {B n c : Nat} {a : Option Addr} {l : List Int} {w w' : World} (h : OwnJ B (.slice a n c) l w) (hb : Below w.heap.size w w') : OwnJ B (.slice a n c) l w' :=
  h.same (fun x hx => hb.block _ (h.lo x hx).2)

theorem OwnJ.keep {B c n : Nat} {a : Option Addr} {l : List Int} {w w' : World} {g : Nat} (h : OwnJ B (.slice a n c) l w) (ho : Only g w w') (hne : ∀ x, a = some x → x.block ≠ g) : OwnJ B (.slice a n c) l w' :=
  h.same (fun x hx => ho.block _ (h.lo x hx).2 (hne x hx))

theorem OwnJ.alloc {B c n : Nat} {a : Option Addr} {l : List Int} {w : World} (p : OwnJ B (.slice a n c) l w) (o : Obj) : OwnJ B (.slice a n c) l (w.alloc o) :=
  p.below ((Below.refl _ _).alloc (Nat.le_refl _) o)

theorem OwnJ.set {B c n : Nat} {a : Option Addr} {l : List Int} {w : World} {p : Addr} (h : OwnJ B (.slice a n c) l w) (hp : ∀ x, a = some x → x.block ≠ p.block) (v : Value) : OwnJ B (.slice a n c) l (w.setCell p v) :=
  h.same (fun x hx => Below.heap_setCell _ _ _ _ (hp x hx))

theorem OwnJ.stored {B n c g off : Nat} {l : List Int} {w : World} (h : OwnJ B (.slice (some ⟨g, off, none⟩) n c) l w) (hl : l.length = n) {k : Nat} (hk : k < n) (x : Int) : OwnJ B (.slice (some ⟨g, off, none⟩) n c) (l.set k x) (w.setCell ⟨g, off + k, none⟩ (.int .i64 x)) := by
  obtain ⟨_, _, _, hv, _, ⟨h1, _, _⟩ | ⟨g', off', cur, hg, hB, hh, hc⟩⟩ := h
  · cases hv; cases h1
  · cases hv
    cases hg
    refine ⟨_, _, _, rfl, by rw [List.length_set]; exact hl, .inr ⟨g, off, cur.setIfInBounds (off + k) (.int .i64 x), rfl, hB, ?_, fun i hi => ?_⟩⟩
    · exact set_cells hh (off + k) (.int .i64 x)
    · by_cases e : i = k
      · subst e
        have hlt : off + i < cur.size := by
          have := hc i hi
          rcases Nat.lt_or_ge (off + i) cur.size with h | h
          · exact h
          · rw [Array.getElem?_eq_none h] at this; cases this
        rw [Array.getElem?_setIfInBounds_self_of_lt hlt, List.getD_eq_getElem?_getD, List.getElem?_set_self (by omega)]
        rfl
      · rw [Array.getElem?_setIfInBounds_ne (by omega), List.getD_eq_getElem?_getD, List.getElem?_set_ne (by omega), ← List.getD_eq_getElem?_getD]
        exact hc i hi

set_option maxHeartbeats 1000000 in
/-- Two rows of numbers that are alike. -/
theorem eqIntS_row {a b : Option Addr} {ca cb : Nat} {l : List Int} {w : World} {n : Nat} (hn : l.length = n) (ha : RowI w a l) (hb : RowI w b l) (hl : (n : Int) ≤ 9223372036854775807) :
    Calls Tryd.prog 12 #[.slice a n ca, .slice b n cb] w (Gives (.bool true) w) := by
  have HN := Lib.hid hn
  have HA := Lib.hid ha
  have HB := Lib.hid hb
  clear hn ha hb
  go_enter Tryd.func12, Tryd.ntmps12
  go_wp2_with fail
  go_loopw [5] (fun i wr => ∃ k : Nat, k ≤ n ∧ i = .int .i64 k ∧ ∃ q, wr = w.drewN q) (fun i _ => n - (intOf i).toNat)
  case atStart => exact ⟨0, Nat.zero_le _, rfl, 0, rfl⟩
  case round =>
    obtain ⟨k, hk, rfl, q, rfl⟩ := hrel
    by_cases hlt : k < n
    · obtain ⟨ga, oa, rfl, hca⟩ := HA.out.at (k := k) (by rw [HN.out]; exact hlt)
      obtain ⟨gb, ob, rfl, hcb⟩ := HB.out.at (k := k) (by rw [HN.out]; exact hlt)
      obtain ⟨x, hx⟩ : ∃ x, l.getD k 0 = x := ⟨_, rfl⟩
      rw [hx] at hca hcb
      have txx : (x != x) = false := by simp
      clear hx
      go_wp2_with fail
      go_quiet (fail)
      go_wp2
      go_roundw
      case rel => exact ⟨k + 1, by omega, by go_num, _, rfl⟩
      case measure => simp [intOf]; omega
    · go_wp2_with fail
      go_ret
      exact ⟨rfl, rfl, rfl, rfl, Nat.le_refl _, fun _ _ => rfl⟩

set_option maxHeartbeats 1000000 in
theorem markIntS_j {B : Nat} {a : Option Addr} {c : Nat} {l : List Int} {w : World} {n : Nat} (hn : l.length = n) (h : OwnJ B (.slice a n c) l w) (k0 : Nat) (h1 : k0 + n ≤ 1000000000) (g0 : Nat) (hg0 : ∀ x, a = some x → x.block = g0) :
    Calls Tryd.prog 13 #[.slice a n c, .int .i64 k0] w fun e w' => e = .returned (.int .i64 ((k0 + n : Nat) : Int)) ∧ OwnJ B (.slice a n c) (marksI k0 n) w' ∧ Only g0 w w' := by
  have HN := Lib.hid hn
  have HO := Lib.hid h
  have HG0 := Lib.hid hg0
  clear hn h hg0
  go_enter Tryd.func13, Tryd.ntmps13
  go_wp2_with fail
  go_loopw [1, 5] (fun m i wr => ∃ k : Nat, k ≤ n ∧ i = .int .i64 k ∧ m = .int .i64 ((k0 + k : Nat) : Int) ∧ OwnJ B (.slice a n c) (marksI k0 k ++ l.drop k) wr ∧ Only g0 w wr) (fun _ i _ => n - (intOf i).toNat)
  case atStart => exact ⟨0, Nat.zero_le _, rfl, rfl, by simpa [marksI] using HO.out, Only.refl _ _⟩
  case round =>
    obtain ⟨k, hk, rfl, rfl, hown, hok⟩ := hrel
    by_cases hlt : k < n
    · have hlen : (marksI k0 k ++ l.drop k).length = n := by have := HN.out; simp [marksI_length]; omega
      obtain ⟨g, off, rfl, hc, hf, hB, hg⟩ := hown.at (k := k) (by rw [hlen]; exact hlt)
      have HL := Lib.hid hlen
      obtain ⟨old, hco⟩ : ∃ u, wr.cell? ⟨g, off + k, none⟩ = some u := ⟨_, hc⟩
      have HO2 := Lib.hid hown
      have HK2 := Lib.hid hok
      have HGG : Hid (g = g0) := HG0.out _ rfl
      have HST := Lib.hid (marksI_step k0 k l (by have := HN.out; omega))
      clear hc hlen hown hok
      go_wp2_with fail
      have R2 : OwnJ B (.slice (some ⟨g, off, none⟩) n c) (marksI k0 (k + 1) ++ l.drop (k + 1)) (wr.setCell ⟨g, off + k, none⟩ (.int .i64 ((k0 : Int) + (k : Int)))) := by
        rw [← HST.out]
        have := HO2.out.stored HL.out hlt (((k0 + k : Nat) : Int))
        rwa [show ((k0 + k : Nat) : Int) = (k0 : Int) + (k : Int) by simp] at this
      have HK3 := Lib.hid (HK2.out.setCell (p := ⟨g, off + k, none⟩) HGG.out (.int .i64 ((k0 : Int) + (k : Int))))
      go_roundw
      case rel => exact ⟨k + 1, by omega, by go_num, by go_num, R2, HK3.out⟩
      case measure => simp [intOf]; omega
    · obtain rfl : k = n := by omega
      have HF := Lib.hid hown
      go_wp2_with fail
      go_ret
      exact ⟨by first | rfl | exact ret_i (by omega), by have := HF.out; rwa [List.drop_of_length_le (by have := HN.out; omega), List.append_nil] at this, hok⟩

theorem marksI_getD (k0 : Nat) {n k : Nat} (h : k < n) : (marksI k0 n).getD k 0 = ((k0 + k : Nat) : Int) := by
  rw [List.getD_eq_getElem?_getD, List.getElem?_eq_getElem (by rw [marksI_length]; exact h), marksI_get]
  rfl

set_option maxHeartbeats 1000000 in
theorem heldIntS_row {a : Option Addr} {c : Nat} {n : Nat} {w : World} (k0 : Nat) (h : RowI w a (marksI k0 n)) (h1 : k0 + n ≤ 1000000000) :
    Calls Tryd.prog 14 #[.slice a n c, .int .i64 k0] w (Gives (.int .i64 ((k0 + n : Nat) : Int)) w) := by
  have HO := Lib.hid h
  clear h
  go_enter Tryd.func14, Tryd.ntmps14
  go_wp2_with fail
  go_loop [1, 5] (fun m i => ∃ k : Nat, k ≤ n ∧ i = .int .i64 k ∧ m = .int .i64 ((k0 + k : Nat) : Int)) (fun _ i => n - (intOf i).toNat)
  case atStart => exact ⟨0, Nat.zero_le _, rfl, rfl⟩
  case round =>
    obtain ⟨k, hk, rfl, rfl⟩ := hrel
    by_cases hlt : k < n
    · obtain ⟨g, off, rfl, hc⟩ := HO.out.at (k := k) (by rw [marksI_length]; exact hlt)
      rw [marksI_getD k0 hlt] at hc
      have hc' : w.cell? ⟨g, off + k, none⟩ = some (.int .i64 ((k0 : Int) + (k : Int))) := by rw [hc]; simp
      have txx : ((k0 : Int) + (k : Int) != (k0 : Int) + (k : Int)) = false := by simp
      clear hc
      go_wp2_with fail
      go_round
      case rel => exact ⟨k + 1, by omega, by go_num, by go_num⟩
      case measure => simp [intOf]; omega
    · obtain rfl : k = n := by omega
      go_wp2_with fail
      go_ret
      exact ⟨by first | rfl | exact ret_i (by omega), Below.refl _ _⟩

/-- A call that answers a summary whose rows are its own, the second one anywhere in its block. -/
def GivesRj (n1 n2 : Nat) (la ac : List Int) (w : World) (e : Ending) (w' : World) : Prop :=
  ∃ a1 c1 a2 c2, e = .returned (.agg #[.slice a1 n1 c1, .slice a2 n2 c2]) ∧ OwnI w.heap.size (.slice a1 n1 c1) la w' ∧ OwnJ w.heap.size (.slice a2 n2 c2) ac w' ∧ Apt a1 a2 ∧ Below w.heap.size w w'

theorem GivesRd.toJ {n1 n2 : Nat} {la ac : List Int} {w w' : World} {e : Ending} (hn : ac.length = n2) (h : GivesRd n1 n2 la ac w e w') : GivesRj n1 n2 la ac w e w' := by
  obtain ⟨a1, c1, a2, c2, rfl, o1, o2, hp, hb⟩ := h
  exact ⟨a1, c1, a2, c2, rfl, o1, o2.toJ hn, hp, hb⟩

end Go.Proofs.YtpddinflkkcodaaDoor

namespace Go.Proofs.YtpddinflkkcodaaDoor
open Go.RowKit Go.PlainAid

set_option linter.unusedVariables false

/-- A call that answers a row of numbers of its own, anywhere in its block. -/
def GivesJ (n : Nat) (l : List Int) (w : World) (e : Ending) (w' : World) : Prop :=
  ∃ a c, e = .returned (.slice a n c) ∧ n ≤ c ∧ OwnJ w.heap.size (.slice a n c) l w' ∧ Below w.heap.size w w'

/-- The same with two numbers behind the row. -/
def GivesV (n : Nat) (t : List Int × Int × Int) (w : World) (e : Ending) (w' : World) : Prop :=
  ∃ a c, e = .returned (.tuple #[.slice a n c, .int .i64 t.2.1, .int .i64 t.2.2]) ∧ n ≤ c ∧ OwnJ w.heap.size (.slice a n c) t.1 w' ∧ Below w.heap.size w w'

theorem apt_new {B n c n' c' : Nat} {a a' : Option Addr} {l l' : List Int} {w w' : World} (h : OwnJ B (.slice a n c) l w) (h' : OwnJ w.heap.size (.slice a' n' c') l' w') : Apt a a' := fun x y hx hy => by
  have h1 := (h.lo x hx).2
  have h2 := (h'.lo y hy).1
  omega

theorem OwnJ.pick {B n c : Nat} {a : Option Addr} {l : List Int} {w : World} (h : OwnJ B (.slice a n c) l w) : ∃ g, (∀ x, a = some x → x.block = g) ∧ B ≤ g ∧ ∀ k, k < w.heap.size → (∀ x, a = some x → x.block ≠ k) → k ≠ g := by
  have l1 := h.lo
  rcases a with _ | x
  · exact ⟨B + w.heap.size, (fun x h => by cases h), by omega, fun k hk _ => by omega⟩
  · exact ⟨x.block, (fun y h => by cases h; rfl), (l1 x rfl).1, fun k _ h => fun e => h x rfl e.symm⟩

theorem syns_le (w : List Int) : (syns w).length ≤ 11 := by unfold syns; split <;> simp

theorem encI_le (d : List Int) : (encI d).length ≤ 11 := by
  unfold encI
  split
  · rename_i h
    rw [ints_length, enc_length, nats_length]
    have := h.2
    omega
  · simp

theorem corW_le (w : List Int) : (corW w).1.length ≤ 11 := by
  by_cases h : SymOk w 11
  · have h11 := h.2
    have : (corW w).1.length = w.length := by
      unfold corW
      rw [if_pos h]
      show (ints (correct (nats w)).1).length = _
      rw [ints_length]
      unfold correct
      split
      · exact nats_length w
      · split
        · exact nats_length w
        · show ((nats w).set _ _).length = _
          rw [List.length_set]; exact nats_length w
    omega
  · have : corW w = ([], 2, -1) := if_neg h
    rw [this]
    simp

def ISymbolsOk : Prop := ∀ (a : Option Addr) (n c : Nat) (l : List Int) (m : Int) (v : Bool) (hv : decide (SymOk l m) = v) (hn : l.length = n) (hl : n ≤ 3000000) (hc : n ≤ c) (w : World) (h : RowI w a l), Calls Tryd.prog 23 #[.slice a n c, .int .i64 m] w (Gives (.bool v) w)

def IWordOk : Prop := ∀ (a : Option Addr) (n c : Nat) (l : List Int) (v : Bool) (hv : decide (goodW l) = v) (hn : l.length = n) (hl : n ≤ 3000000) (hc : n ≤ c) (w : World) (h : RowI w a l), Calls Tryd.prog 33 #[.slice a n c] w (Gives (.bool v) w)

def ISyndromes : Prop := ∀ (a : Option Addr) (n c : Nat) (l : List Int) (k : Nat) (hk : k ≤ 11) (v : List Int) (hv : syns l = v) (hk2 : v.length = k) (hn : l.length = n) (hl : n ≤ 3000000) (hc : n ≤ c) (w : World) (h : RowI w a l), Calls Tryd.prog 46 #[.slice a n c] w (GivesJ k v w)

def IEncodeSymbols (G : World → Prop) : Prop := ∀ (a : Option Addr) (n c : Nat) (l : List Int) (k : Nat) (hk : k ≤ 11) (v : List Int) (hv : encI l = v) (hk2 : v.length = k) (hn : l.length = n) (hl : n ≤ 3000000) (hc : n ≤ c) (w : World) (hG : G w) (h : RowI w a l), Calls Tryd.prog 18 #[.slice a n c] w (GivesJ k v w)

def IDataOf : Prop := ∀ (a : Option Addr) (n c : Nat) (l : List Int) (k : Nat) (hk : k ≤ 11) (v : List Int) (hv : dataI l = v) (hk2 : v.length = k) (hn : l.length = n) (hl : n ≤ 3000000) (hc : n ≤ c) (w : World) (h : RowI w a l), Calls Tryd.prog 21 #[.slice a n c] w (GivesJ k v w)

def ICorrectWord : Prop := ∀ (a : Option Addr) (n c : Nat) (l : List Int) (k : Nat) (hk : k ≤ 11) (v : List Int × Int × Int) (hv : corW l = v) (hk2 : v.1.length = k) (hn : l.length = n) (hl : n ≤ 3000000) (hc : n ≤ c) (w : World) (h : RowI w a l), Calls Tryd.prog 20 #[.slice a n c] w (GivesV k v w)

end Go.Proofs.YtpddinflkkcodaaDoor

namespace Go.Proofs.YtpddinflkkcodaaDoor
open Go.RowKit Go.PlainAid

set_option linter.unusedVariables false

def ISymbolsOfWord : Prop := ∀ (x : Int) (k : Nat) (hk : k ≤ 8) (v : List Int) (hv : symW x = v) (hk2 : v.length = k) (w : World), Calls Tryd.prog 19 #[.int .i64 x] w (GivesJ k v w)

def IEncodeLine (G : World → Prop) : Prop := ∀ (x : Int) (k : Nat) (hk : k ≤ 11) (v : List Int) (hv : encI (symW x) = v) (hk2 : v.length = k) (w : World) (hG : G w), Calls Tryd.prog 8 #[.int .i64 x] w (GivesJ k v w)

def IDecodeLine : Prop := ∀ (a : Option Addr) (n c : Nat) (l : List Int) (x cd at' : Int) (hv : decW l = (x, cd, at')) (hn : l.length = n) (hl : n ≤ 3000000) (hc : n ≤ c) (w : World) (h : RowI w a l), Calls Tryd.prog 9 #[.slice a n c] w (Gives (.tuple #[.int .i64 x, .int .i64 cd, .int .i64 at']) w)

def IFormatLine : Prop := ∀ (a : Option Addr) (n c : Nat) (l : List Int) (v : ByteArray) (hv : lineT l = v) (hn : l.length = n) (hl : n ≤ 3000000) (hc : n ≤ c) (w : World) (h : RowI w a l), Calls Tryd.prog 10 #[.slice a n c] w (Gives (.string v) w)

end Go.Proofs.YtpddinflkkcodaaDoor

namespace Go.Proofs.YtpddinflkkcodaaDoor
open Go.RowKit Go.PlainAid

set_option linter.unusedVariables false

theorem symOk_no {l : List Int} {m : Int} {k : Nat} (hk : k < l.length) (h : ¬ El (l.getD k 0)) : decide (SymOk l m) = false :=
  decide_eq_false fun q => h (el_getD q.1 hk)

theorem symOk_all {l : List Int} {m : Int} (h : Els l) : decide (SymOk l m) = ((l.length : Int) == m) := by
  by_cases e : (l.length : Int) = m
  · rw [decide_eq_true (show SymOk l m from ⟨h, e⟩)]; simpa using e
  · rw [decide_eq_false (fun q : SymOk l m => e q.2)]; simpa using e

set_option maxHeartbeats 1000000 in
set_option maxRecDepth 100000 in
theorem specSymbolsOk_is {a : Option Addr} {c n : Nat} {l : List Int} {m : Int} (hn : l.length = n) {w : World} (h : RowI w a l) (v : Bool) (hv : decide (SymOk l m) = v) (hl : (n : Int) ≤ 9223372036854775807) :
    Calls Tryd.prog 38 #[.slice a n c, .int .i64 m] w (Says (.bool v) w) := by
  have HN := Lib.hid hn
  have HA := Lib.hid h
  have HV := Lib.hid hv
  clear hn h hv
  go_enter Tryd.func38, Tryd.ntmps38
  go_wp2_with fail
  go_loopw [5] (fun i wr => ∃ k : Nat, k ≤ n ∧ i = .int .i64 k ∧ Els (l.take k) ∧ wr = w) (fun i _ => n - (intOf i).toNat)
  case atStart => exact ⟨0, Nat.zero_le _, rfl, (fun v hv => by cases hv), rfl⟩
  case round =>
    obtain ⟨k, hk, rfl, hels, rfl⟩ := hrel
    have HE := Lib.hid hels
    clear hels
    by_cases hlt : k < n
    · obtain ⟨ga, oa, rfl, hca⟩ := HA.out.at (k := k) (by rw [HN.out]; exact hlt)
      obtain ⟨x, hx⟩ : ∃ x, l.getD k 0 = x := ⟨_, rfl⟩
      rw [hx] at hca
      by_cases he : El x
      · have HS := Lib.hid (els_take (by rw [HN.out]; exact hlt) HE.out (hx ▸ he))
        have KA := Lib.hid (decide_eq_true he)
        clear hx he
        go_wp2_with fail
        refine (specIs_is x true KA.out _).mono ?_
        rintro e w2 ⟨rfl, rfl⟩
        go_wp2_with fail
        go_roundw
        case rel => exact ⟨k + 1, by omega, by go_num, HS.out, by trivial⟩
        case measure => simp [intOf]; omega
      · have HF : Hid (false = v) := by show _ = _; rw [← HV.out]; exact (symOk_no (by rw [HN.out]; exact hlt) (hx ▸ he)).symm
        have KA := Lib.hid (decide_eq_false he)
        clear hx he
        go_wp2_with fail
        refine (specIs_is x false KA.out _).mono ?_
        rintro e w2 ⟨rfl, rfl⟩
        go_wp2_with fail
        go_ret
        exact ⟨ret_b HF.out, rfl⟩
    · obtain rfl : k = n := by omega
      have HF : Hid (((k : Int) == m) = v) := by
        show _ = _
        rw [← HV.out, symOk_all (by have := HE.out; rwa [List.take_of_length_le (by rw [HN.out]; omega)] at this), HN.out]
      go_wp2_with fail
      go_ret
      exact ⟨ret_b HF.out, rfl⟩

end Go.Proofs.YtpddinflkkcodaaDoor

namespace Go.Proofs.YtpddinflkkcodaaDoor
open Go.RowKit Go.PlainAid

set_option linter.unusedVariables false

theorem ownI_other {B n c g : Nat} {l : List Int} {w : World} {p : Addr} (h : OwnI B (.slice (some ⟨g, 0, none⟩) n c) l w) (hp : g ≠ p.block) (u : Value) : OwnI B (.slice (some ⟨g, 0, none⟩) n c) l (w.setCell p u) := by
  refine ⟨h.1, ?_⟩
  rcases h.2 with hv | ⟨b, cap, cur, hv, hB, hh, r⟩
  · exact .inl hv
  · cases hv
    exact .inr ⟨g, c, cur, rfl, hB, (Below.heap_setCell _ _ _ _ hp).trans hh, r⟩

theorem rowI_other {g o : Nat} {l : List Int} {w : World} {p : Addr} (h : RowI w (some ⟨g, o, none⟩) l) (hp : g ≠ p.block) (u : Value) : RowI (w.setCell p u) (some ⟨g, o, none⟩) l := by
  rcases h with h | ⟨g', o', he, hc⟩
  · exact .inl h
  · cases he
    refine .inr ⟨g, o, rfl, fun i hi => ?_⟩
    have := hc i hi
    simp only [World.cell?, Below.heap_setCell _ _ _ _ hp] at this ⊢
    exact this

theorem getD_ints {l : List Nat} {k : Nat} : (ints l).getD k 0 = ((l.getD k 0 : Nat) : Int) := ints_getD l k

theorem int_at {r : List Nat} {k : Nat} (hk : k < (ints r).length) : (ints r)[k] = ((r.getD k 0 : Nat) : Int) := by
  rw [← getD_ints, List.getD_eq_getElem?_getD, List.getElem?_eq_getElem hk]
  rfl

theorem mulP_lt {b : List Nat} {r : Nat} (hb : Lt16 b) (hr : r < 16) : ∀ i, Lt16 (mulP b r i)
  | 0 => fun v hv => by rw [(List.mem_replicate.mp hv).2]; omega
  | i + 1 => lt_set (lt_set (mulP_lt hb hr i) (xor_lt (getDn_lt (mulP_lt hb hr i) _) (getDn_lt hb _))) (xor_lt (getDn_lt (mulP_lt hb hr i) _) (gm_lt (getDn_lt hb _) hr))

theorem polyB_next {t : Nat} (h : 1 ≤ t) : polyB (t + 1) = mulP (polyB t) (gp 2 t) (polyB t).length := by
  match t, h with
  | t + 1, _ => rfl

theorem poly_lt1 : Lt16 (polyB 1) := by unfold Lt16; decide

theorem poly_lt2 : Lt16 (polyB 2) := by rw [polyB_two]; unfold Lt16; decide

set_option maxHeartbeats 4000000 in
set_option maxRecDepth 100000 in
theorem specEncodeSymbols_is {a : Option Addr} {c n : Nat} {l : List Int} (hn : l.length = n) {w : World} (h : RowI w a l) (v : List Int) (hv : encI l = v) (hl : (n : Int) ≤ 9223372036854775807) :
    Calls Tryd.prog 24 #[.slice a n c] w (GivesI v w) := by
  have HN := Lib.hid hn
  have HA := Lib.hid h
  have HV := Lib.hid hv
  clear hn h hv
  by_cases hok : SymOk l 8
  case neg =>
    have KA := Lib.hid (decide_eq_false hok)
    obtain rfl : v = [] := by rw [← HV.out]; exact if_neg hok
    clear hok
    go_enter Tryd.func24, Tryd.ntmps24
    go_wp2_with fail
    refine (specSymbolsOk_is HN.out HA.out false KA.out hl).mono ?_
    rintro e w2 ⟨rfl, rfl⟩
    go_wp2_with fail
    go_ret
    exact givesI_empty rfl (Nat.le_refl _) (by show (w.heap.push _)[w.heap.size]? = _; simp) ((Below.refl _ _).alloc (Nat.le_refl _) _)
  have KA := Lib.hid (decide_eq_true hok)
  obtain rfl : n = 8 := by have := hok.2; have := HN.out; omega
  obtain ⟨g, o, rfl, _⟩ := HA.out.at (k := 0) (by rw [HN.out]; omega)
  obtain ⟨u, hu⟩ : ∃ u, nats l = u := ⟨_, rfl⟩
  have HLT : Hid (Lt16 u) := by show Lt16 u; rw [← hu]; exact nats_lt hok.1
  have HUL : Hid (u.length = 8) := by show _ = _; rw [← hu, nats_length]; exact HN.out
  have HLU : Hid (l = ints u) := by show _ = _; rw [← hu, ints_nats hok.1]
  have HF : Hid (ints (enc u) = v) := by show _ = _; rw [← HV.out, encI, if_pos hok, hu]
  obtain ⟨i0, hi, hz0, hz1, hz2⟩ := info_parts infoI
  clear hok hu HV
  go_enter Tryd.func24, Tryd.ntmps24
  go_wp2_with fail
  refine (specSymbolsOk_is HN.out HA.out true KA.out hl).mono ?_
  rintro e w2 ⟨rfl, rfl⟩
  go_wp2_with (at_make; refine wpList_make_full _ rfl _ _ 25 rfl w.heap.size 3 i0 (.int .i64 0) 1 Tryd.underlying25 hi hz0 hz1 _ _ _ _ 3 rfl rfl rfl rfl (by rw [hz2]; omega) (by unfold maxLen; omega) (Nat.le_refl _) ?_)
  intro w1 hown hgr
  have hb1 : Below w.heap.size w w1 := (Below.refl _ _).grown hgr (Nat.le_refl _) (fun k hk => by cases hk)
  have own1 : OwnI w.heap.size (.slice (some ⟨w.heap.size, 0, none⟩) 3 3) [0, 0, 0] w1 := by
    unfold OwnI
    rw [made_one] at hown
    exact hown
  have HR1 := Lib.hid (HA.out.below hb1)
  have hs1 := hb1.size
  clear hown hgr
  go_wp2_with (at_builtin; refine append_int rfl _ _ rfl w.heap.size _ 3 [0, 0, 0] rfl own1 rfl (some ⟨g, o, none⟩) 8 c l rfl HN.out (fun h => by cases h) HR1.out (by omega) hs1 ?_)
  intro v' w4 hown4 hgrow _
  have HB4 : Hid (Below w.heap.size w w4) := hb1.grown hgrow hs1 (fun j hj => by have := Option.some.inj hj; have h2 : w.heap.size = j := this; omega)
  obtain ⟨aa, cc, hv⟩ := hown4.shape
  subst hv
  have hlen : ((0 : Int) :: 0 :: 0 :: l).length = 11 := by have := HN.out; simp only [List.length_cons]; omega
  rw [hlen] at hown4
  obtain ⟨P, rfl, _, _, hBP, hPS⟩ := hown4.at (k := 0) (by rw [hlen]; omega)
  have HO4 : Hid (OwnI w.heap.size (.slice (some ⟨P, 0, none⟩) 11 cc) (0 :: 0 :: 0 :: ints u) w4) := by show OwnI _ _ _ _; rw [← HLU.out]; exact hown4
  have HPS := Lib.hid hPS
  have HBP := Lib.hid hBP
  rw [hlen]
  clear hown4 hgrow own1 hb1 hBP hPS HR1 hs1
  go_wp2_with fail
  have HBY : Hid (RowI (w4.alloc (.cells #[.int .i64 1, .int .i64 1] 3)) (some ⟨w4.heap.size, 0, none⟩) (ints (polyB 1))) := by
    refine .inr ⟨_, _, rfl, fun i hi => ?_⟩
    have hh : (w4.alloc (.cells #[.int .i64 1, .int .i64 1] 3)).heap[w4.heap.size]? = some (.cells #[.int .i64 1, .int .i64 1] 3 (0, 0)) := by show (w4.heap.push _)[w4.heap.size]? = _; simp
    have hi2 : i < 2 := hi
    simp only [World.cell?, hh]
    match i, hi2 with
    | 0, _ => rfl
    | 1, _ => rfl
  go_loopw [4, 5] (fun b j wr => ∃ t Q m cq : Nat, 1 ≤ t ∧ t ≤ 3 ∧ j = .int .i64 t ∧ b = .slice (some ⟨Q, 0, none⟩) m cq ∧ m = t + 1 ∧ RowI wr (some ⟨Q, 0, none⟩) (ints (polyB t)) ∧ P < Q ∧ Q < wr.heap.size ∧ OwnI w.heap.size (.slice (some ⟨P, 0, none⟩) 11 cc) (0 :: 0 :: 0 :: ints u) wr ∧ Below w.heap.size w wr) (fun _ j _ => 3 - (intOf j).toNat)
  case atStart => exact ⟨1, w4.heap.size, 2, 2, Nat.le_refl _, by omega, rfl, rfl, rfl, HBY.out, HPS.out, by simp, World.ownsRow.alloc HO4.out _, HB4.out.alloc HB4.out.size _⟩
  case round =>
    obtain ⟨t, Q, m, cq, ht1, ht3, rfl, rfl, hm, hby, hPQ, hQs, hW, hbr⟩ := hrel
    have HBY := Lib.hid hby
    have HPQ := Lib.hid hPQ
    have HQS := Lib.hid hQs
    have HW := Lib.hid hW
    have HBR := Lib.hid hbr
    clear hby hPQ hQs hW hbr
    by_cases hlt : t < 3
    case neg =>
      obtain rfl : t = 3 := by omega
      obtain rfl : m = 4 := by omega
      rw [polyB_three] at HBY
      have hb3 : Below wr.heap.size wr (wr.alloc (.cells #[] 3)) := (Below.refl _ _).alloc (Nat.le_refl _) _
      have own3 : OwnI wr.heap.size (.slice (some ⟨wr.heap.size, 0, none⟩) 0 0) [] (wr.alloc (.cells #[] 3)) := World.ownsRow_made (base := wr.heap.size) (e := 3) (size := 1) wr #[] 0 (Nat.le_refl _) (by decide) rfl
      have HRW := Lib.hid (HW.out.row.below hb3)
      have hS3 : wr.heap.size ≤ (wr.alloc (.cells #[] 3)).heap.size := by simp
      have hlen3 : ((0 : Int) :: 0 :: 0 :: ints u).length = 11 := by have := HUL.out; simp only [List.length_cons, ints_length]; omega
      go_wp2_with (at_builtin; refine append_int rfl _ _ rfl wr.heap.size _ 0 [] rfl own3 rfl (some ⟨P, 0, none⟩) 11 cc (0 :: 0 :: 0 :: ints u) rfl hlen3 (fun h => by cases h) HRW.out (by omega) hS3 ?_)
      intro v' w5 hown5 hgrow5 _
      (try rw [List.nil_append] at hown5)
      have hb5 : Below wr.heap.size wr w5 := hb3.grown hgrow5 hS3 (fun j hj => by have := Option.some.inj hj; have h2 : wr.heap.size = j := this; omega)
      obtain ⟨ar, cr, hv⟩ := hown5.shape
      subst hv
      rw [hlen3] at hown5
      obtain ⟨R, rfl, _, _, hBR, hRS⟩ := hown5.at (k := 0) (by rw [hlen3]; omega)
      have HR5 : Hid (OwnI wr.heap.size (.slice (some ⟨R, 0, none⟩) 11 cr) (ints (0 :: 0 :: 0 :: u)) w5) := hown5
      have HW5 : Hid (OwnI w.heap.size (.slice (some ⟨P, 0, none⟩) 11 cc) (0 :: 0 :: 0 :: ints u) w5) := HW.out.below hb5
      have HY5 := Lib.hid (HBY.out.below hb5)
      have HB5 : Hid (Below w.heap.size w w5) := HBR.out.trans (hb5.mono HBR.out.size)
      have HQR : Hid (Q < R) := Nat.lt_of_lt_of_le HQS.out hBR
      have HPR : Hid (P < R) := Nat.lt_trans HPQ.out HQR.out
      have HWR : Hid (w.heap.size ≤ R) := Nat.le_of_lt (Nat.lt_of_le_of_lt HBP.out HPR.out)
      have HQ3 := HQS.out
      rw [hlen3]
      clear hown5 hgrow5 own3 hb3 hb5 HRW hS3 hBR hRS HBY HQS HW HBR
      obtain ⟨B0, hB0⟩ : ∃ B0, wr.heap.size = B0 := ⟨_, rfl⟩
      rw [hB0] at HR5
      clear hB0
      go_wp2_with fail
      go_loopw [9] (fun x wx => ∃ i : Nat, ∃ r : List Nat, 2 ≤ i ∧ i ≤ 10 ∧ x = .int .i64 i ∧ DivAt u i r ∧ OwnI B0 (.slice (some ⟨R, 0, none⟩) 11 cr) (ints r) wx ∧ OwnI w.heap.size (.slice (some ⟨P, 0, none⟩) 11 cc) (0 :: 0 :: 0 :: ints u) wx ∧ RowI wx (some ⟨Q, 0, none⟩) (ints [8, 14, 7, 1]) ∧ Below w.heap.size w wx) (fun x _ => (intOf x).toNat)
      case atStart => exact ⟨10, _, by omega, by omega, rfl, div_start HLT.out HUL.out, HR5.out, HW5.out, HY5.out, HB5.out⟩
      case round =>
        obtain ⟨i, r, hi2, hi10, rfl, hdiv, hR, hW, hY, hbr⟩ := hrel
        have HD := Lib.hid hdiv
        have HR6 := Lib.hid hR
        have HW6 := Lib.hid hW
        have HY6 := Lib.hid hY
        have HB6 := Lib.hid hbr
        have HRL : Hid ((ints r).length = 11) := by show _ = _; rw [ints_length]; exact hdiv.1
        have HRT : Hid (Lt16 r) := hdiv.2.1
        clear hdiv hR hW hY hbr HR5 HW5 HY5 HB5
        by_cases hi3 : 3 ≤ i
        case neg =>
          obtain rfl : i = 2 := by omega
          have HEN := Lib.hid (div_end HLT.out HD.out)
          go_wp2_with fail
          go_loopw [13] (fun x wx => ∃ k : Nat, k ≤ 3 ∧ x = .int .i64 k ∧ OwnI B0 (.slice (some ⟨R, 0, none⟩) 11 cr) (ints r) wx ∧ OwnI w.heap.size (.slice (some ⟨P, 0, none⟩) 11 cc) (((if 0 < k then r.getD 0 0 else 0 : Nat) : Int) :: ((if 1 < k then r.getD 1 0 else 0 : Nat) : Int) :: ((if 2 < k then r.getD 2 0 else 0 : Nat) : Int) :: ints u) wx ∧ Below w.heap.size w wx) (fun x _ => 3 - (intOf x).toNat)
          case atStart => exact ⟨0, by omega, rfl, HR6.out, HW6.out, HB6.out⟩
          case round =>
            obtain ⟨k, hk3, rfl, hR, hW, hbr⟩ := hrel
            have HR7 := Lib.hid hR
            have HW7 := Lib.hid hW
            have HB7 := Lib.hid hbr
            clear hR hW hbr HR6 HW6 HY6 HB6
            have hwl : (((if 0 < k then r.getD 0 0 else 0 : Nat) : Int) :: ((if 1 < k then r.getD 1 0 else 0 : Nat) : Int) :: ((if 2 < k then r.getD 2 0 else 0 : Nat) : Int) :: ints u).length = 11 := by have := HUL.out; simp only [List.length_cons, ints_length]; omega
            by_cases hk : k < 3
            case neg =>
              obtain rfl : k = 3 := by omega
              have HFN : Hid (OwnI w.heap.size (.slice (some ⟨P, 0, none⟩) 11 cc) v wr) := by
                show OwnI _ _ _ _
                rw [← HF.out, ← HEN.out]
                exact HW7.out
              have HVL : Hid (v.length = 11) := by show _ = _; rw [← HF.out, ints_length, enc_length, HUL.out]
              go_wp2_with fail
              go_ret
              exact ⟨some ⟨P, 0, none⟩, cc, by rw [HVL.out]; rfl, by rw [HVL.out]; exact HFN.out, HB7.out⟩
            obtain ⟨g1, hg1, hc1, _, _, _⟩ := HR7.out.at (k := k) (by rw [HRL.out]; omega)
            obtain rfl : R = g1 := by simpa using hg1
            obtain ⟨g2, hg2, hc2, hf2, _, _⟩ := HW7.out.at (k := k) (by rw [hwl]; omega)
            obtain rfl : P = g2 := by simpa using hg2
            have hcR : wr.cell? ⟨R, k, none⟩ = some (.int .i64 ((r.getD k 0 : Nat) : Int)) := by
              rw [hc1, ← getD_ints, List.getD_eq_getElem?_getD, List.getElem?_eq_getElem (by rw [HRL.out]; omega)]
              rfl
            have HST : Hid ((((if 0 < k then r.getD 0 0 else 0 : Nat) : Int) :: ((if 1 < k then r.getD 1 0 else 0 : Nat) : Int) :: ((if 2 < k then r.getD 2 0 else 0 : Nat) : Int) :: ints u).set k ((r.getD k 0 : Nat) : Int) = ((if 0 < k + 1 then r.getD 0 0 else 0 : Nat) : Int) :: ((if 1 < k + 1 then r.getD 1 0 else 0 : Nat) : Int) :: ((if 2 < k + 1 then r.getD 2 0 else 0 : Nat) : Int) :: ints u) := by
              show _ = _
              match k, hk with
              | 0, _ => simp
              | 1, _ => simp
              | 2, _ => simp
            obtain ⟨X, hX⟩ : ∃ X : Int, ((r.getD k 0 : Nat) : Int) = X := ⟨_, rfl⟩
            rw [hX] at hcR HST
            obtain ⟨old, hco⟩ : ∃ u, wr.cell? ⟨P, k, none⟩ = some u := ⟨_, hc2⟩
            have HWL := Lib.hid hwl
            clear hX hc1 hc2 hg1 hg2 hwl
            go_wp2_with fail
            have R9 : Hid (OwnI B0 (.slice (some ⟨R, 0, none⟩) 11 cr) (ints r) (wr.setCell ⟨P, k, none⟩ (.int .i64 X))) := ownI_other HR7.out (Nat.ne_of_gt HPR.out) _
            have W9 : Hid (OwnI w.heap.size (.slice (some ⟨P, 0, none⟩) 11 cc) (((if 0 < k + 1 then r.getD 0 0 else 0 : Nat) : Int) :: ((if 1 < k + 1 then r.getD 1 0 else 0 : Nat) : Int) :: ((if 2 < k + 1 then r.getD 2 0 else 0 : Nat) : Int) :: ints u) (wr.setCell ⟨P, k, none⟩ (.int .i64 X))) := by
              show OwnI _ _ _ _
              rw [← HST.out]
              exact HW7.out.stored HWL.out k _
            have HB9 : Hid (Below w.heap.size w (wr.setCell ⟨P, k, none⟩ (.int .i64 X))) := HB7.out.setCell HBP.out _
            go_roundw
            case rel => exact ⟨k + 1, by omega, by go_num, R9.out, W9.out, HB9.out⟩
            case measure => simp [intOf]; omega
        have hfl : r.getD i 0 < 16 := getDn_lt HRT.out i
        obtain ⟨f, hf0⟩ : ∃ f, r.getD i 0 = f := ⟨_, rfl⟩
        have HDS := Lib.hid (div_step HD.out hi3 hi10)
        rw [hf0] at hfl HDS
        have HFL := Lib.hid hfl
        obtain ⟨g1, hg1, hc1, _, _, _⟩ := HR6.out.at (k := i) (by rw [HRL.out]; omega)
        obtain rfl : R = g1 := by simpa using hg1
        have hcf : wr.cell? ⟨R, i, none⟩ = some (.int .i64 (f : Int)) := by
          rw [hc1, int_at, hf0]
        clear hf0 hc1 hg1 hfl
        go_wp2_with fail
        go_loopw [11] (fun x wx => ∃ k : Nat, k ≤ 4 ∧ x = .int .i64 k ∧ OwnI B0 (.slice (some ⟨R, 0, none⟩) 11 cr) (ints (redP r f (i - 3) k)) wx ∧ OwnI w.heap.size (.slice (some ⟨P, 0, none⟩) 11 cc) (0 :: 0 :: 0 :: ints u) wx ∧ RowI wx (some ⟨Q, 0, none⟩) (ints [8, 14, 7, 1]) ∧ Below w.heap.size w wx) (fun x _ => 4 - (intOf x).toNat)
        case atStart => exact ⟨0, by omega, rfl, HR6.out, HW6.out, HY6.out, HB6.out⟩
        case round =>
          obtain ⟨k, hk4, rfl, hR, hW, hY, hbr⟩ := hrel
          have HR7 := Lib.hid hR
          have HW7 := Lib.hid hW
          have HY7 := Lib.hid hY
          have HB7 := Lib.hid hbr
          clear hR hW hY hbr HR6 HW6 HY6 HB6
          by_cases hk : k < 4
          case neg =>
            obtain rfl : k = 4 := by omega
            go_wp2_with fail
            go_roundw
            case rel => exact ⟨i - 1, _, by omega, by omega, by go_num, HDS.out, HR7.out, HW7.out, HY7.out, HB7.out⟩
            case measure => simp [intOf]; omega
          obtain ⟨p, hp⟩ : ∃ p, i - 3 = p := ⟨_, rfl⟩
          obtain ⟨q, hq⟩ : ∃ q, p + k = q := ⟨_, rfl⟩
          have hq11 : q < 11 := by omega
          have u1 : IntKind.i64.wrap ((i : Int) - 3) = (p : Int) := (IntWalk.i64_in _ (by omega)).trans (by omega)
          have u2 : IntKind.i64.wrap ((p : Int) + (k : Int)) = (q : Int) := (IntWalk.i64_in _ (by omega)).trans (by omega)
          rw [hp] at HR7
          have hRQ : Lt16 (redP r f p k) := redP_lt HRT.out HFL.out k
          have HL7 : Hid ((ints (redP r f p k)).length = 11) := by show _ = _; rw [ints_length, redP_length]; have := HRL.out; rwa [ints_length] at this
          obtain ⟨g1, hg1, hc1, _, _, _⟩ := HR7.out.at (k := q) (by rw [HL7.out]; exact hq11)
          obtain rfl : R = g1 := by simpa using hg1
          obtain ⟨g2, o2, he2, hc2⟩ := HY7.out.at (k := k) (by rw [ints_length]; exact hk)
          cases he2
          obtain ⟨X, hX⟩ : ∃ X, (redP r f p k).getD q 0 = X := ⟨_, rfl⟩
          obtain ⟨Y, hY⟩ : ∃ Y, [8, 14, 7, 1].getD k 0 = Y := ⟨_, rfl⟩
          have hXl : X < 16 := by rw [← hX]; exact getDn_lt hRQ q
          have hYl : Y < 16 := by rw [← hY]; exact poly_lt k
          have hcX : wr.cell? ⟨R, q, none⟩ = some (.int .i64 (X : Int)) := by rw [hc1, int_at, hX]
          have hcY : wr.cell? ⟨Q, k, none⟩ = some (.int .i64 (Y : Int)) := by
            have := hc2
            rw [getD_ints, hY, Nat.zero_add] at this
            exact this
          have HM : Hid (gfMul (Y : Int) (f : Int) = ((gm Y f : Nat) : Int)) := gfMul_nat hYl HFL.out
          have hG : gm Y f < 16 := gm_lt hYl HFL.out
          obtain ⟨G, hGe⟩ : ∃ G, gm Y f = G := ⟨_, rfl⟩
          rw [hGe] at HM hG
          have hxor : bits .xor .i64 (X : Int) (G : Int) = ((X ^^^ G : Nat) : Int) := i64_xor_nat X G (by omega) (by omega)
          have HST : Hid ((ints (redP r f p k)).set q ((X ^^^ G : Nat) : Int) = ints (redP r f p (k + 1))) := by
            show _ = _
            rw [← ints_set, ← hX, ← hGe, ← hY, ← hq]
            rfl
          have HP := Lib.hid hp
          have z0 := fun q : Later wr => q.cell hcX
          have z1 := fun q : Later wr => q.cell hcY
          clear hc1 hc2 hX hY hXl hYl hGe hG hg1 hRQ
          go_wp2_with fail
          refine wp_region_later_tail 14 (by kernel_rfl) (by kernel_rfl) ?_
          simp only [List.take_succ_cons, List.take_zero, List.drop_succ_cons, List.drop_zero]
          repeat (go_big_quiet_step (first | (go_at_call 39; exact Gives.later_same _ (specGfMul_is _ _ _ HM.out _))))
          refine wpQuiet_nil ?_
          rintro w8 ⟨zz, hz⟩
          have hb8 : Below wr.heap.size wr w8 := hz ▸ zz.ok
          have HR8 := Lib.hid (HR7.out.below hb8)
          have HW8 : Hid (OwnI w.heap.size (.slice (some ⟨P, 0, none⟩) 11 cc) (0 :: 0 :: 0 :: ints u) w8) := HW7.out.below hb8
          have HY8 := Lib.hid (HY7.out.below hb8)
          have HB8 : Hid (Below w.heap.size w w8) := HB7.out.trans (hb8.mono HB7.out.size)
          obtain ⟨g2, hg2, hc2, hf2, _, _⟩ := HR8.out.at (k := q) (by rw [HL7.out]; exact hq11)
          obtain rfl : R = g2 := by simpa using hg2
          obtain ⟨old, hco⟩ : ∃ u, w8.cell? ⟨R, q, none⟩ = some u := ⟨_, hc2⟩
          clear z0 z1 hz zz hb8 hcX hcY hc2 hg2
          go_wp2_with fail
          have R9 : Hid (OwnI B0 (.slice (some ⟨R, 0, none⟩) 11 cr) (ints (redP r f (i - 3) (k + 1))) (w8.setCell ⟨R, q, none⟩ (.int .i64 ((X ^^^ G : Nat) : Int)))) := by
            show OwnI _ _ _ _
            rw [HP.out, ← HST.out]
            exact HR8.out.stored HL7.out q _
          have W9 : Hid (OwnI w.heap.size (.slice (some ⟨P, 0, none⟩) 11 cc) (0 :: 0 :: 0 :: ints u) (w8.setCell ⟨R, q, none⟩ (.int .i64 ((X ^^^ G : Nat) : Int)))) := ownI_other HW8.out (Nat.ne_of_lt HPR.out) _
          have Y9 : Hid (RowI (w8.setCell ⟨R, q, none⟩ (.int .i64 ((X ^^^ G : Nat) : Int))) (some ⟨Q, 0, none⟩) (ints [8, 14, 7, 1])) := rowI_other HY8.out (Nat.ne_of_lt HQR.out) _
          have HB9 : Hid (Below w.heap.size w (w8.setCell ⟨R, q, none⟩ (.int .i64 ((X ^^^ G : Nat) : Int)))) := HB8.out.setCell HWR.out _
          go_roundw
          case rel => exact ⟨k + 1, by omega, by go_num, R9.out, W9.out, Y9.out, HB9.out⟩
          case measure => simp [intOf]; omega
    have hbl : (polyB t).length = m ∧ Lt16 (polyB t) := by
      obtain rfl | rfl : t = 1 ∨ t = 2 := by omega
      · exact ⟨by rw [hm]; rfl, poly_lt1⟩
      · exact ⟨by rw [hm, polyB_two]; rfl, poly_lt2⟩
    have HBL : Hid ((polyB t).length = m) := hbl.1
    have HBT : Hid (Lt16 (polyB t)) := hbl.2
    have HNX := Lib.hid (polyB_next ht1)
    have HP : Hid (gfPow 2 (t : Int) = ((gp 2 t : Nat) : Int)) := gfPow_nat (a := 2) (by omega) (by omega)
    obtain ⟨y, hy⟩ : ∃ y, gp 2 t = y := ⟨_, rfl⟩
    have hyl : y < 16 := by rw [← hy]; exact gp_lt (by omega) t
    rw [hy] at HP HNX
    obtain ⟨b, hb⟩ : ∃ b, polyB t = b := ⟨_, rfl⟩
    rw [hb] at HBY HBL HBT HNX
    rw [HBL.out] at HNX
    have HYL := Lib.hid hyl
    obtain ⟨N, hN⟩ : ∃ N, m + 1 = N := ⟨_, rfl⟩
    have hm3 : m ≤ 3 := by omega
    have u0 : IntKind.i64.wrap ((m : Int) + 1) = (N : Int) := (IntWalk.i64_in _ (by omega)).trans (by omega)
    have HM := Lib.hid hm
    clear hbl hy hb hyl hm
    obtain ⟨S, hS⟩ : ∃ S, wr.heap.size = S := ⟨_, rfl⟩
    go_wp2_with (at_make; refine wpList_make_full _ rfl _ _ 25 rfl wr.heap.size 3 i0 (.int .i64 0) 1 Tryd.underlying25 hi hz0 hz1 _ _ _ _ N rfl rfl rfl rfl (by rw [hz2]; omega) (by unfold maxLen; omega) (Nat.le_refl _) ?_)
    intro w1 hown hgr
    have hb1 : Below wr.heap.size wr w1 := (Below.refl _ _).grown hgr (Nat.le_refl _) (fun k hk => by cases hk)
    have own1 : OwnI S (.slice (some ⟨S, 0, none⟩) N N) (ints (mulP b y 0)) w1 := by
      unfold OwnI
      rw [made_one] at hown
      have e : ints (mulP b y 0) = List.replicate N (0 : Int) := by
        show ints (List.replicate (b.length + 1) 0) = _
        rw [HBL.out, hN]
        simp [ints]
      rw [e, List.length_replicate, show (List.replicate N (0 : Int)).map (Value.int .i64) = List.replicate N (Value.int .i64 0) by simp]
      exact hown
    have HY1 := Lib.hid (HBY.out.below hb1)
    have HW1 : Hid (OwnI w.heap.size (.slice (some ⟨P, 0, none⟩) 11 cc) (0 :: 0 :: 0 :: ints u) w1) := HW.out.below hb1
    have HB1 : Hid (Below w.heap.size w w1) := HBR.out.trans (hb1.mono HBR.out.size)
    have HQ1 : Q < S := by have := HQS.out; omega
    have HSZ : Hid (S < w1.heap.size) := by
      obtain ⟨_, he, _, _, _, h5⟩ := own1.at (k := 0) (by rw [ints_length, mulP_length]; omega)
      show S < _
      cases he
      exact h5
    have HO1 := Lib.hid own1
    have HQ2 := Lib.hid HQ1
    have HPS2 : Hid (P < S) := Nat.lt_trans HPQ.out HQ1
    have HWS : Hid (w.heap.size ≤ S) := Nat.le_of_lt (Nat.lt_of_le_of_lt HBP.out HPS2.out)
    clear hown hgr own1 hb1 hS HQ1 HBY HW HBR HQS
    go_wp2_with fail
    go_loopw [7] (fun x wx => ∃ i : Nat, i ≤ m ∧ x = .int .i64 i ∧ OwnI S (.slice (some ⟨S, 0, none⟩) N N) (ints (mulP b y i)) wx ∧ OwnI w.heap.size (.slice (some ⟨P, 0, none⟩) 11 cc) (0 :: 0 :: 0 :: ints u) wx ∧ RowI wx (some ⟨Q, 0, none⟩) (ints b) ∧ Below w.heap.size w wx ∧ S < wx.heap.size) (fun x _ => m - (intOf x).toNat)
    case atStart => exact ⟨0, by omega, rfl, HO1.out, HW1.out, HY1.out, HB1.out, HSZ.out⟩
    case round =>
      obtain ⟨i, hi3, rfl, hO, hW, hY, hbr, hsz⟩ := hrel
      have HO2 := Lib.hid hO
      have HW2 := Lib.hid hW
      have HY2 := Lib.hid hY
      have HB2 := Lib.hid hbr
      have HZ2 := Lib.hid hsz
      clear hO hW hY hbr hsz HO1 HW1 HY1 HB1 HSZ
      by_cases hk : i < m
      case neg =>
        obtain rfl : i = m := by omega
        go_wp2_with fail
        go_roundw
        case rel => exact ⟨t + 1, S, N, N, by omega, by omega, by go_num, rfl, by have := HM.out; omega, by rw [HNX.out]; exact HO2.out.row, HPS2.out, HZ2.out, HW2.out, HB2.out⟩
        case measure => simp [intOf]; omega
      obtain ⟨q, hq⟩ : ∃ q, i + 1 = q := ⟨_, rfl⟩
      have u1 : IntKind.i64.wrap ((i : Int) + 1) = (q : Int) := (IntWalk.i64_in _ (by omega)).trans (by omega)
      obtain ⟨L, hL⟩ : ∃ L, mulP b y i = L := ⟨_, rfl⟩
      rw [hL] at HO2
      have hLlt : Lt16 L := by rw [← hL]; exact mulP_lt HBT.out HYL.out i
      have hLl : L.length = N := by rw [← hL, mulP_length, HBL.out, hN]
      have HLL : Hid ((ints L).length = N) := by show _ = _; rw [ints_length]; exact hLl
      have hqN : q < N := by omega
      have hiN : i < N := by omega
      obtain ⟨g1, hg1, hc1, _, _, _⟩ := HO2.out.at (k := q) (by rw [HLL.out]; exact hqN)
      obtain rfl : S = g1 := by simpa using hg1
      obtain ⟨g2, o2, he2, hc2⟩ := HY2.out.at (k := i) (by rw [ints_length, HBL.out]; exact hk)
      cases he2
      obtain ⟨X, hX⟩ : ∃ X, L.getD q 0 = X := ⟨_, rfl⟩
      obtain ⟨X2, hX2⟩ : ∃ X, L.getD i 0 = X := ⟨_, rfl⟩
      obtain ⟨Y, hY⟩ : ∃ Y, b.getD i 0 = Y := ⟨_, rfl⟩
      have hXl : X < 16 := by rw [← hX]; exact getDn_lt hLlt q
      have hX2l : X2 < 16 := by rw [← hX2]; exact getDn_lt hLlt i
      have hYl : Y < 16 := by rw [← hY]; exact getDn_lt HBT.out i
      have hcX : wr.cell? ⟨S, q, none⟩ = some (.int .i64 (X : Int)) := by rw [hc1, int_at, hX]
      have hcY : wr.cell? ⟨Q, i, none⟩ = some (.int .i64 (Y : Int)) := by
        have := hc2
        rw [getD_ints, hY, Nat.zero_add] at this
        exact this
      have HMU : Hid (gfMul (Y : Int) (y : Int) = ((gm Y y : Nat) : Int)) := gfMul_nat hYl HYL.out
      have hG : gm Y y < 16 := gm_lt hYl HYL.out
      have HMN : Hid (mulP b y (i + 1) = (L.set q (X ^^^ Y)).set i (X2 ^^^ gm Y y)) := by
        show ((mulP b y i).set (i + 1) ((mulP b y i).getD (i + 1) 0 ^^^ b.getD i 0)).set i ((mulP b y i).getD i 0 ^^^ gm (b.getD i 0) y) = _
        rw [hL, hq, hX, hX2, hY]
      obtain ⟨G, hGe⟩ : ∃ G, gm Y y = G := ⟨_, rfl⟩
      rw [hGe] at HMU hG HMN
      have hxor : bits .xor .i64 (X : Int) (Y : Int) = ((X ^^^ Y : Nat) : Int) := i64_xor_nat X Y (by omega) (by omega)
      have hxor2 : bits .xor .i64 (X2 : Int) (G : Int) = ((X2 ^^^ G : Nat) : Int) := i64_xor_nat X2 G (by omega) (by omega)
      have HL1 : Hid ((ints (L.set q (X ^^^ Y))).length = N) := by show _ = _; rw [ints_length, List.length_set]; exact hLl
      have HG1 : Hid ((L.set q (X ^^^ Y)).getD i 0 = X2) := by show _ = _; rw [getDs_ne (by omega), hX2]
      have z0 := fun q : Later wr => q.cell hcX
      have z1 := fun q : Later wr => q.cell hcY
      have HYE : Hid (b.getD i 0 = Y) := hY
      clear hc1 hc2 hX hX2 hY hXl hX2l hYl hGe hG hg1 hL hLlt hLl
      go_wp2_with fail
      refine wp_region_later_tail 14 (by kernel_rfl) (by kernel_rfl) ?_
      simp only [List.take_succ_cons, List.take_zero, List.drop_succ_cons, List.drop_zero]
      repeat (go_big_quiet_step (fail))
      refine wpQuiet_nil ?_
      rintro w8 ⟨zz, hz⟩
      have hb8 : Below wr.heap.size wr w8 := hz ▸ zz.ok
      have HO8 := Lib.hid (HO2.out.below hb8)
      have HW8 : Hid (OwnI w.heap.size (.slice (some ⟨P, 0, none⟩) 11 cc) (0 :: 0 :: 0 :: ints u) w8) := HW2.out.below hb8
      have HY8 := Lib.hid (HY2.out.below hb8)
      have HB8 : Hid (Below w.heap.size w w8) := HB2.out.trans (hb8.mono HB2.out.size)
      have HZ8 : Hid (S < w8.heap.size) := Nat.lt_of_lt_of_le HZ2.out hb8.size
      obtain ⟨g2, hg2, hc2, hf2, _, _⟩ := HO8.out.at (k := q) (by rw [HLL.out]; exact hqN)
      obtain rfl : S = g2 := by simpa using hg2
      obtain ⟨old, hco⟩ : ∃ u, w8.cell? ⟨S, q, none⟩ = some u := ⟨_, hc2⟩
      clear z0 z1 hz zz hb8 hcX hcY hc2 hg2
      go_wp2_with fail
      obtain ⟨w9, hw9⟩ : ∃ x, w8.setCell ⟨S, q, none⟩ (.int .i64 ((X ^^^ Y : Nat) : Int)) = x := ⟨_, rfl⟩
      have HO9 : Hid (OwnI S (.slice (some ⟨S, 0, none⟩) N N) (ints (L.set q (X ^^^ Y))) w9) := by
        show OwnI _ _ _ _
        rw [← hw9, ints_set]
        exact HO8.out.stored HLL.out q _
      have HW9 : Hid (OwnI w.heap.size (.slice (some ⟨P, 0, none⟩) 11 cc) (0 :: 0 :: 0 :: ints u) w9) := by show OwnI _ _ _ _; rw [← hw9]; exact ownI_other HW8.out (Nat.ne_of_lt HPS2.out) _
      have HY9 : Hid (RowI w9 (some ⟨Q, 0, none⟩) (ints b)) := by show RowI _ _ _; rw [← hw9]; exact rowI_other HY8.out (Nat.ne_of_lt HQ2.out) _
      have HB9 : Hid (Below w.heap.size w w9) := by show Below _ _ _; rw [← hw9]; exact HB8.out.setCell HWS.out _
      have HZ9 : Hid (S < w9.heap.size) := by show S < _; rw [← hw9]; simpa using HZ8.out
      rw [hw9]
      clear hw9 HO8 HW8 HY8 HB8 HZ8 HO2 HW2 HY2 HB2 HZ2 hf2 hco
      obtain ⟨g1, hg1, hc1, _, _, _⟩ := HO9.out.at (k := i) (by rw [HL1.out]; exact hiN)
      obtain rfl : S = g1 := by simpa using hg1
      obtain ⟨g2, o2, he2, hc2⟩ := HY9.out.at (k := i) (by rw [ints_length, HBL.out]; exact hk)
      cases he2
      have hcX : w9.cell? ⟨S, i, none⟩ = some (.int .i64 (X2 : Int)) := by rw [hc1, int_at, HG1.out]
      have hcY : w9.cell? ⟨Q, i, none⟩ = some (.int .i64 (Y : Int)) := by
        have := hc2
        rw [getD_ints, HYE.out, Nat.zero_add] at this
        exact this
      have z0 := fun q : Later w9 => q.cell hcX
      have z1 := fun q : Later w9 => q.cell hcY
      clear hc1 hc2 hg1
      refine wp_region_later_tail 15 (by kernel_rfl) (by kernel_rfl) ?_
      simp only [List.take_succ_cons, List.take_zero, List.drop_succ_cons, List.drop_zero]
      repeat (go_big_quiet_step (first | (go_at_call 40; exact Gives.later_same _ (specGfPow_is _ _ _ HP.out _)) | (go_at_call 39; exact Gives.later_same _ (specGfMul_is _ _ _ HMU.out _))))
      refine wpQuiet_nil ?_
      rintro w10 ⟨zz, hz⟩
      have hb10 : Below w9.heap.size w9 w10 := hz ▸ zz.ok
      have HO10 := Lib.hid (HO9.out.below hb10)
      have HW10 : Hid (OwnI w.heap.size (.slice (some ⟨P, 0, none⟩) 11 cc) (0 :: 0 :: 0 :: ints u) w10) := HW9.out.below hb10
      have HY10 := Lib.hid (HY9.out.below hb10)
      have HB10 : Hid (Below w.heap.size w w10) := HB9.out.trans (hb10.mono HB9.out.size)
      have HZ10 : Hid (S < w10.heap.size) := Nat.lt_of_lt_of_le HZ9.out hb10.size
      obtain ⟨g2, hg2, hc2, hf2, _, _⟩ := HO10.out.at (k := i) (by rw [HL1.out]; exact hiN)
      obtain rfl : S = g2 := by simpa using hg2
      obtain ⟨old, hco⟩ : ∃ u, w10.cell? ⟨S, i, none⟩ = some u := ⟨_, hc2⟩
      clear z0 z1 hz zz hb10 hcX hcY hc2 hg2
      go_wp2_with fail
      have O11 : Hid (OwnI S (.slice (some ⟨S, 0, none⟩) N N) (ints (mulP b y (i + 1))) (w10.setCell ⟨S, i, none⟩ (.int .i64 ((X2 ^^^ G : Nat) : Int)))) := by
        show OwnI _ _ _ _
        rw [HMN.out, ints_set]
        exact HO10.out.stored HL1.out i _
      have W11 : Hid (OwnI w.heap.size (.slice (some ⟨P, 0, none⟩) 11 cc) (0 :: 0 :: 0 :: ints u) (w10.setCell ⟨S, i, none⟩ (.int .i64 ((X2 ^^^ G : Nat) : Int)))) := ownI_other HW10.out (Nat.ne_of_lt HPS2.out) _
      have Y11 : Hid (RowI (w10.setCell ⟨S, i, none⟩ (.int .i64 ((X2 ^^^ G : Nat) : Int))) (some ⟨Q, 0, none⟩) (ints b)) := rowI_other HY10.out (Nat.ne_of_lt HQ2.out) _
      have HB11 : Hid (Below w.heap.size w (w10.setCell ⟨S, i, none⟩ (.int .i64 ((X2 ^^^ G : Nat) : Int)))) := HB10.out.setCell HWS.out _
      have HZ11 : Hid (S < (w10.setCell ⟨S, i, none⟩ (.int .i64 ((X2 ^^^ G : Nat) : Int))).heap.size) := by show S < _; simpa using HZ10.out
      go_roundw
      case rel => exact ⟨i + 1, by omega, by rw [← hq] at u1; go_num, O11.out, W11.out, Y11.out, HB11.out, HZ11.out⟩
      case measure => simp [intOf]; omega

end Go.Proofs.YtpddinflkkcodaaDoor

namespace Go.Proofs.YtpddinflkkcodaaDoor
open Go.RowKit Go.PlainAid

set_option linter.unusedVariables false

theorem OwnI.cap_le {B n c : Nat} {a : Option Addr} {l : List Int} {w : World} (h : OwnI B (.slice a n c) l w) (hn : l.length = n) : n ≤ c := by
  rcases h.2 with ⟨hv, h0⟩ | ⟨g, cap, cur, hv, hB, hh, h1, _, _, _⟩
  · cases hv; omega
  · cases hv; simp_all

end Go.Proofs.YtpddinflkkcodaaDoor

namespace Go.Proofs.YtpddinflkkcodaaDoor
open Go.RowKit Go.PlainAid

set_option linter.unusedVariables false

theorem and15_is {n k : Nat} (hn : n < 2 ^ 62) : bits .and .i64 ((n : Int) / 2 ^ k) 15 = ((n / 2 ^ k % 16 : Nat) : Int) := by
  have e : (n : Int) / 2 ^ k = ((n / 2 ^ k : Nat) : Int) := by simp
  have h : n / 2 ^ k < 2 ^ 63 := Nat.lt_of_le_of_lt (Nat.div_le_self _ _) (by omega)
  rw [e, show (15 : Int) = ((15 : Nat) : Int) from rfl, i64_and_nat _ 15 h (by decide)]
  congr 1
  exact Nat.and_two_pow_sub_one_eq_mod (n / 2 ^ k) 4

set_option maxHeartbeats 4000000 in
set_option maxRecDepth 100000 in
theorem specSymbolsOfWord_is (x : Int) (v : List Int) (hv : symW x = v) (w : World) :
    Calls Tryd.prog 25 #[.int .i64 x] w (GivesI v w) := by
  by_cases hx : Wd x
  case neg =>
    have KA := Lib.hid (decide_eq_false hx)
    obtain rfl : v = [] := by rw [← hv]; exact symW_no hx
    clear hx hv
    go_enter Tryd.func25, Tryd.ntmps25
    go_wp2_with fail
    go_loopw [3, 4] (fun u i wr => u = .slice (some ⟨w.heap.size, 0, none⟩) 0 0 ∧ i = .int .i64 0 ∧ wr = w.alloc (.cells #[] 3)) (fun _ _ _ => 0)
    case atStart => exact ⟨rfl, rfl, by trivial⟩
    case round =>
      obtain ⟨rfl, rfl, rfl⟩ := hrel
      go_wp2_with fail
      refine (specIsWord_is x false KA.out _).mono ?_
      rintro e w2 ⟨rfl, rfl⟩
      go_wp2_with fail
      go_ret
      exact ⟨_, _, rfl, World.ownsRow_made (base := w.heap.size) (e := 3) (size := 1) w #[] 0 (Nat.le_refl _) (by decide) rfl, (Below.refl _ _).alloc (Nat.le_refl _) _⟩
  have KA := Lib.hid (decide_eq_true hx)
  obtain ⟨n, rfl⟩ := Int.eq_ofNat_of_zero_le hx.1
  obtain rfl : v = ints (grp n 8) := by rw [← hv]; exact symW_nat hx
  have hn : n < 4294967296 := by have := hx.2; omega
  obtain ⟨i0, hi, hz0, hz1, hz2⟩ := info_parts infoI
  clear hx hv
  go_enter Tryd.func25, Tryd.ntmps25
  go_wp2_with fail
  go_loopw [3, 4] (fun u i wr => ∃ k : Nat, k ≤ 8 ∧ i = .int .i64 k ∧ OwnI w.heap.size u (ints (grp n k)) wr ∧ Below w.heap.size w wr) (fun _ i _ => 9 - (intOf i).toNat)
  case atStart => exact ⟨0, by omega, rfl, World.ownsRow_made (base := w.heap.size) (e := 3) (size := 1) w #[] 0 (Nat.le_refl _) (by decide) rfl, (Below.refl _ _).alloc (Nat.le_refl _) _⟩
  case round =>
    obtain ⟨k, hk, rfl, hown, hbr⟩ := hrel
    have hsr := hbr.size
    by_cases hlt : k < 8
    case neg =>
      obtain rfl : k = 8 := by omega
      (try rw [show ((8 : Nat) : Int) = 8 from rfl])
      obtain ⟨a, c, hv⟩ := hown.shape
      subst hv
      have HO := Lib.hid hown
      have HB := Lib.hid hbr
      clear hown hbr
      go_wp2_with fail
      go_ret
      exact ⟨a, c, rfl, HO.out, HB.out⟩
    have hI : decide ((k : Int) < 8) = true := decide_eq_true (by omega)
    have hI' : (k : Int) < 8 := by omega
    have wk : IntKind.i64.wrap ((k : Int) + 1) = (k : Int) + 1 := IntWalk.i64_in _ (by omega)
    have w4 : IntKind.i64.wrap (4 * (k : Int)) = 4 * (k : Int) := IntWalk.i64_in _ (by omega)
    have HL := Lib.hid (show (ints (grp n k)).length = k by rw [ints_length, grp_length])
    go_wp2_with fail
    refine (specIsWord_is (n : Int) true KA.out _).mono ?_
    rintro e w2 ⟨rfl, rfl⟩
    obtain ⟨g, hg⟩ : ∃ g, n / 16 ^ k % 16 = g := ⟨_, rfl⟩
    have e1 : bits .and .i64 ((n : Int) / 2 ^ (4 * k)) 15 = (g : Int) := by
      rw [← hg, and15_is (by omega), Nat.pow_mul]
    have HG : Hid (ints (grp n k) ++ [(g : Int)] = ints (grp n (k + 1))) := by show _ = _; rw [← hg]; exact grp_step n k
    generalize ints (grp n k) = l at hown HL HG
    clear hg
    go_wp2_with (at_builtin; refine wpList_append_own _ rfl _ _ 25 rfl w.heap.size 3 i0 (.int .i64 0) 1 8 Tryd.underlying25 hi hz0 hz1 hz2 rfl (by decide) _ _ _ rfl (World.ownsRow.alloc hown _) ⟨wr.heap.size, 0, none⟩ 1 1 [.int .i64 (g : Int)] rfl rfl (cell_one_new _ _ _) (by intro u hu; simp at hu; subst hu; rfl) (by rw [HL.out]; unfold maxLen; omega) (by rw [HL.out]; omega) (by rw [World.size_alloc]; omega) ?_)
    intro v' w3 hown3 hgrow _
    have R : Hid (OwnI w.heap.size v' (ints (grp n (k + 1))) w3) := by show OwnI _ _ _ _; rw [← HG.out]; exact ownI_more hown3
    have HB3 : Hid (Below w.heap.size w w3) := (hbr.alloc hsr _).grown hgrow (by simp; omega) (fun j hj => (World.ownsRow.lt hown j hj).1)
    clear hown3 hgrow hown hbr
    go_wp2_with fail
    go_roundw
    case rel => exact ⟨k + 1, by omega, by go_num, R.out, HB3.out⟩
    case measure => simp [intOf]; omega

theorem specEncodeLine_is (x : Int) (v : List Int) (hv : encI (symW x) = v) (w : World) :
    Calls Tryd.prog 11 #[.int .i64 x] w (GivesI v w) := by
  have HV := Lib.hid hv
  have hl8 := symW_le x
  obtain ⟨s, hs⟩ : ∃ s, symW x = s := ⟨_, rfl⟩
  rw [hs] at hl8
  have HS := Lib.hid hs
  obtain ⟨m, hm⟩ : ∃ m, s.length = m := ⟨_, rfl⟩
  have HM := Lib.hid hm
  have HV2 : Hid (encI s = v) := by show _ = _; rw [← hs]; exact hv
  rw [hm] at hl8
  clear hv hs hm
  go_enter Tryd.func11, Tryd.ntmps11
  go_wp2_with fail
  refine (specSymbolsOfWord_is x s HS.out _).mono ?_
  rintro e w2 ⟨a, c, rfl, own2, hb2⟩
  rw [HM.out] at own2
  (try rw [HM.out])
  have HO := Lib.hid own2.row
  have HB := Lib.hid hb2
  clear own2 hb2
  go_wp2_with fail
  refine (specEncodeSymbols_is HM.out HO.out v HV2.out (by omega)).mono ?_
  rintro e w3 ⟨a2, c2, rfl, own3, hb3⟩
  have HO3 := Lib.hid own3
  have HB3 := Lib.hid hb3
  have HSZ := Lib.hid HB.out.size
  clear own3 hb3
  go_wp2_with fail
  go_ret
  exact ⟨a2, c2, rfl, HO3.out.mono HSZ.out, HB.out.trans (HB3.out.mono HSZ.out)⟩

end Go.Proofs.YtpddinflkkcodaaDoor

namespace Go.Proofs.YtpddinflkkcodaaDoor
open Go.RowKit Go.PlainAid

set_option linter.unusedVariables false

set_option maxHeartbeats 8000000 in
set_option maxRecDepth 100000 in
theorem exEncodeLine_of (G : World → Prop) (IMPL : Hid (IEncodeLine G)) (x : Int) (w : World) (GK : Hid (∀ w', Below w.heap.size w w' → G w')) :
    Calls Tryd.prog 4 #[.int .i64 x] w fun e w' => e = .returned (.bool true) ∧ Below w.heap.size w w' := by
  obtain ⟨v, hv⟩ : ∃ v, encI (symW x) = v := ⟨_, rfl⟩
  have hvl : v.length ≤ 11 := by rw [← hv]; exact encI_le _
  obtain ⟨m, hm⟩ : ∃ m, v.length = m := ⟨_, rfl⟩
  have HV := Lib.hid hv
  have HM := Lib.hid hm
  have hm11 : m ≤ 11 := by omega
  have HML := Lib.hid hm11
  have HML2 : Hid ((m : Int) ≤ 9223372036854775807) := by show _ ≤ _; omega
  have t1n : decide (((1 + m : Nat) : Int) < 0) = false := decide_eq_false (by omega)
  have tmm : (((1 + m : Nat) : Int) != ((1 + m : Nat) : Int)) = false := by simp
  clear hv hvl hm
  go_enter Tryd.func4, Tryd.ntmps4
  have HB0 : Hid (Below w.heap.size w w) := Below.refl _ _
  have SZ0 : Hid (w.heap.size ≤ w.heap.size) := HB0.out.size
  go_wp2_with fail
  refine (specEncodeLine_is x v HV.out _).mono ?_
  rintro e w1 ⟨Va, Vc, rfl, own1, hb1⟩
  rw [HM.out] at own1
  try rw [HM.out]
  have V1 : Hid (OwnJ w.heap.size (.slice Va m Vc) v w1) := own1.toJ HM.out
  have HB1 : Hid (Below w.heap.size w w1) := HB0.out.trans (hb1.mono HB0.out.size)
  clear own1 hb1 HB0
  have SZ1 : Hid (w.heap.size ≤ w1.heap.size) := HB1.out.size
  go_wp2_with fail
  refine (IMPL.out x m HML.out v HV.out HM.out _ (GK.out _ HB1.out)).mono ?_
  rintro e w2 ⟨Ga, Gc, rfl, _, own2, hb2⟩
  have G2 : Hid (OwnJ w1.heap.size (.slice Ga m Gc) v w2) := own2
  have PVG : Hid (Apt Va Ga) := apt_new V1.out G2.out
  have HB2 : Hid (Below w.heap.size w w2) := HB1.out.trans (hb2.mono HB1.out.size)
  have V2 : Hid (OwnJ w.heap.size (.slice Va m Vc) v w2) := V1.out.below hb2
  clear V1
  clear own2 hb2 HB1
  go_wp2_with fail
  refine (eqIntS_row HM.out G2.out.row V2.out.row HML2.out).mono ?_
  rintro e w3 ⟨rfl, hb3⟩
  have HB3 : Hid (Below w.heap.size w w3) := HB2.out.trans (hb3.mono HB2.out.size)
  have V3 : Hid (OwnJ w.heap.size (.slice Va m Vc) v w3) := V2.out.below hb3
  have G3 : Hid (OwnJ w1.heap.size (.slice Ga m Gc) v w3) := G2.out.below hb3
  clear V2 G2
  clear hb3 HB2
  obtain ⟨gR, hgR, hBR, hneR⟩ := G3.out.pick
  have HBB : Hid (w.heap.size ≤ gR) := Nat.le_trans SZ1.out hBR
  have NV : Hid (∀ y, Va = some y → y.block ≠ gR) := fun y hy => hneR y.block (V3.out.lo y hy).2 (fun x hx => fun h => PVG.out y x hy hx h.symm)
  clear hneR hBR
  have HGR := Lib.hid hgR
  clear hgR
  go_wp2_with fail
  refine (markIntS_j HM.out G3.out 1 (by omega) gR HGR.out).mono ?_
  rintro e w4 ⟨rfl, own4, ho4⟩
  have HB4 : Hid (Below w.heap.size w w4) := HB3.out.trans (ho4.below HBB.out HB3.out.size)
  have V4 : Hid (OwnJ w.heap.size (.slice Va m Vc) v w4) := V3.out.keep ho4 NV.out
  have G4 : Hid (OwnJ w1.heap.size (.slice Ga m Gc) (marksI 1 m) w4) := own4
  clear V3 G3 own4 ho4 HB3 HBB HGR NV
  go_wp2_with fail
  refine (heldIntS_row 1 G4.out.row (by omega)).mono ?_
  rintro e w5 ⟨rfl, hb5⟩
  have HB5 : Hid (Below w.heap.size w w5) := HB4.out.trans (hb5.mono HB4.out.size)
  have V5 : Hid (OwnJ w.heap.size (.slice Va m Vc) v w5) := V4.out.below hb5
  have G5 : Hid (OwnJ w1.heap.size (.slice Ga m Gc) (marksI 1 m) w5) := G4.out.below hb5
  clear V4 G4
  clear hb5 HB4
  have SZ5 : Hid (w.heap.size ≤ w5.heap.size) := HB5.out.size
  go_wp2_with fail
  refine (IMPL.out x m HML.out v HV.out HM.out _ (GK.out _ HB5.out)).mono ?_
  rintro e w6 ⟨Ha, Hc, rfl, _, own6, hb6⟩
  have H6 : Hid (OwnJ w5.heap.size (.slice Ha m Hc) v w6) := own6
  have PVH : Hid (Apt Va Ha) := apt_new V5.out H6.out
  have PGH : Hid (Apt Ga Ha) := apt_new G5.out H6.out
  have HB6 : Hid (Below w.heap.size w w6) := HB5.out.trans (hb6.mono HB5.out.size)
  have V6 : Hid (OwnJ w.heap.size (.slice Va m Vc) v w6) := V5.out.below hb6
  have G6 : Hid (OwnJ w1.heap.size (.slice Ga m Gc) (marksI 1 m) w6) := G5.out.below hb6
  clear V5 G5
  clear own6 hb6 HB5
  go_wp2_with fail
  refine (eqIntS_row HM.out H6.out.row V6.out.row HML2.out).mono ?_
  rintro e w7 ⟨rfl, hb7⟩
  have HB7 : Hid (Below w.heap.size w w7) := HB6.out.trans (hb7.mono HB6.out.size)
  have V7 : Hid (OwnJ w.heap.size (.slice Va m Vc) v w7) := V6.out.below hb7
  have G7 : Hid (OwnJ w1.heap.size (.slice Ga m Gc) (marksI 1 m) w7) := G6.out.below hb7
  have H7 : Hid (OwnJ w5.heap.size (.slice Ha m Hc) v w7) := H6.out.below hb7
  clear V6 G6 H6
  clear hb7 HB6
  clear H7
  go_wp2_with fail
  refine (heldIntS_row 1 G7.out.row (by omega)).mono ?_
  rintro e w8 ⟨rfl, hb8⟩
  have HB8 : Hid (Below w.heap.size w w8) := HB7.out.trans (hb8.mono HB7.out.size)
  have V8 : Hid (OwnJ w.heap.size (.slice Va m Vc) v w8) := V7.out.below hb8
  have G8 : Hid (OwnJ w1.heap.size (.slice Ga m Gc) (marksI 1 m) w8) := G7.out.below hb8
  clear V7 G7
  clear hb8 HB7
  go_wp2_with fail
  go_ret
  exact ⟨rfl, HB8.out⟩

end Go.Proofs.YtpddinflkkcodaaDoor

namespace Go.Proofs.YtpddinflkkcodaaDoor
open Go.RowKit Go.PlainAid

set_option linter.unusedVariables false

theorem OwnJ.at0 {B n c g : Nat} {l : List Int} {w : World} (h : OwnJ B (.slice (some ⟨g, 0, none⟩) n c) l w) {k : Nat} (hk : k < l.length) :
    w.cell? ⟨g, k, none⟩ = some (.int .i64 (l.getD k 0)) ∧ w.frozen? ⟨g, k, none⟩ = false ∧ B ≤ g ∧ g < w.heap.size := by
  obtain ⟨g', o, e, h1, h2, h3, h4⟩ := h.at hk
  cases e
  rw [Nat.zero_add] at h1 h2
  exact ⟨h1, h2, h3, h4⟩

theorem place_in {l : List Int} (hl : l.length = 12) (hp : ∀ x ∈ l, 0 ≤ x ∧ x ≤ 9999) (k : Nat) (hk : k < 12) : 0 ≤ l.getD k 0 ∧ l.getD k 0 ≤ 9999 := by
  rw [List.getD_eq_getElem?_getD, List.getElem?_eq_getElem (show k < l.length by omega)]
  exact hp _ (List.getElem_mem _)

theorem tmodN {p : Int} (h : 0 ≤ p) (m : Nat) (hm : 0 < m) : ∃ n : Nat, p.tmod (m : Int) = (n : Int) ∧ n < m := by
  rw [Int.tmod_eq_emod_of_nonneg h]
  have h1 := Int.emod_nonneg p (show (m : Int) ≠ 0 by omega)
  have h2 := Int.emod_lt_of_pos p (show (0 : Int) < (m : Int) by omega)
  exact ⟨(p % (m : Int)).toNat, by omega, by omega⟩

end Go.Proofs.YtpddinflkkcodaaDoor

namespace Go.Proofs.YtpddinflkkcodaaDoor
open Go.RowKit Go.PlainAid

set_option linter.unusedVariables false

set_option maxHeartbeats 8000000 in
set_option maxRecDepth 100000 in
theorem fnLineWords_of (G : World → Prop) (ENC : Hid (IEncodeLine G)) (DEC : Hid IDecodeLine) (FMT : Hid IFormatLine) (a0 : Option Addr) (len cap : Nat) (zs : List Int) (w : World) (hr : IsRow .u8 w a0 len cap zs) (GK : Hid (∀ w', Below w.heap.size w w' → G w')) :
    Calls Tryd.prog 3 #[.slice a0 len cap] w fun e w' => e = .returned (.bool true) ∧ Below w.heap.size w w' := by
  have hl := hr.len_le
  unfold maxLen at hl
  by_cases hbig : (1048576 : Int) < (len : Int)
  · go_enter Tryd.func3, Tryd.ntmps3
    go_wp2_with (go_at_call 5; refine (big_any _ _ _ _ (by omega)).mono ?_; rintro e w' ⟨rfl, rfl⟩)
    go_ret
    exact ⟨rfl, Below.refl _ _⟩
  have HR := Lib.hid hr
  clear hr
  go_enter Tryd.func3, Tryd.ntmps3
  go_wp2_with (go_at_call 5; refine (big_any _ _ _ _ (by omega)).mono ?_; rintro e w' ⟨rfl, rfl⟩)
  have HB0 : Hid (Below w.heap.size w w) := Below.refl _ _
  have SZ0 : Hid (w.heap.size ≤ w.heap.size) := HB0.out.size
  refine (drawWord_any (HR.out.below (fun x h => HR.out.lt h) HB0.out)).mono ?_
  rintro e w1 ⟨x, rfl, hwd, hb1⟩
  have HWD := Lib.hid hwd
  clear hwd
  have HB1 : Hid (Below w.heap.size w w1) := HB0.out.trans (hb1.mono HB0.out.size)
  clear hb1 HB0
  have SZ1 : Hid (w.heap.size ≤ w1.heap.size) := HB1.out.size
  go_wp2_with fail
  refine (drawPlaces_any (HR.out.below (fun x h => HR.out.lt h) HB1.out)).mono ?_
  rintro e w2 ⟨Pg, Pc, lp, rfl, hlp, hpo, own2, hb2⟩
  have HLP := Lib.hid hlp
  have HPO := Lib.hid hpo
  clear hlp hpo
  have P2 : Hid (OwnJ w1.heap.size (.slice (some ⟨Pg, 0, none⟩) 12 Pc) lp w2) := own2.toJ HLP.out
  have HB2 : Hid (Below w.heap.size w w2) := HB1.out.trans (hb2.mono HB1.out.size)
  clear own2 hb2 HB1
  obtain ⟨p0, hp0⟩ : ∃ p, lp.getD 0 0 = p := ⟨_, rfl⟩
  obtain ⟨p1, hp1⟩ : ∃ p, lp.getD 1 0 = p := ⟨_, rfl⟩
  obtain ⟨k, ek, hk⟩ := tmodN (p := p0) (by rw [← hp0]; exact (place_in HLP.out HPO.out 0 (by decide)).1) 11 (by decide)
  obtain ⟨v, ev, hv⟩ := tmodN (p := p1) (by rw [← hp1]; exact (place_in HLP.out HPO.out 1 (by decide)).1) 16 (by decide)
  obtain ⟨c1, a1, hdec, hc1⟩ := line_any HWD.out hk hv
  have hok := line_els HWD.out (k := k) hv
  obtain ⟨wl, hwl⟩ : ∃ u, cwI (symW x) = u := ⟨_, rfl⟩
  rw [hwl] at hdec hok
  have HENC : Hid (encI (symW x) = wl) := by show _ = _; rw [← hwl]; exact cd_enc (symW_len HWD.out) (symW_els HWD.out)
  have HW11 : Hid (wl.length = 11) := by show _ = _; rw [← hwl]; exact cd_length (symW_len HWD.out)
  have HB11 : Hid ((wl.set k (v : Int)).length = 11) := by show _ = _; rw [List.length_set]; exact HW11.out
  obtain ⟨tx, htx⟩ : ∃ t, lineT (wl.set k (v : Int)) = t := ⟨_, rfl⟩
  have HTS : Hid (tx.size = 11) := by
    show _ = _
    rw [← htx]
    unfold lineT
    rw [if_pos hok]
    show (((nats _).map fig).toArray).size = 11
    simp [nats_length, HW11.out]
  have HTX := Lib.hid htx
  have HDEC := Lib.hid hdec
  have tc1 : (c1 != 2) = true := by rw [bne_iff_ne]; omega
  have txx : (x == x) = true := beq_self_eq_true _
  have HP0 := Lib.hid hp0
  have HP1 := Lib.hid hp1
  have HK := Lib.hid hk
  have HV := Lib.hid hv
  have EK : Hid (p0.tmod 11 = (k : Int)) := ek
  have EV : Hid (p1.tmod 16 = (v : Int)) := ev
  clear hp0 hp1 hk hv ek ev hdec hc1 hok hwl htx
  have SZ2 : Hid (w.heap.size ≤ w2.heap.size) := HB2.out.size
  go_wp2_with fail
  refine (ENC.out x 11 (by decide) wl HENC.out HW11.out _ (GK.out _ HB2.out)).mono ?_
  rintro e w3 ⟨Ca, Cc, rfl, hcC', own3, hb3⟩
  have hcC := Lib.hid hcC'
  clear hcC'
  have C3 : Hid (OwnJ w2.heap.size (.slice Ca 11 Cc) wl w3) := own3
  have PPC : Hid (Apt (some ⟨Pg, 0, none⟩) Ca) := apt_new P2.out C3.out
  have HB3 : Hid (Below w.heap.size w w3) := HB2.out.trans (hb3.mono HB2.out.size)
  have P3 : Hid (OwnJ w1.heap.size (.slice (some ⟨Pg, 0, none⟩) 12 Pc) lp w3) := P2.out.below hb3
  clear P2
  clear own3 hb3 HB2
  obtain ⟨Cg, Co, rfl, _⟩ := C3.out.at (k := 0) (by rw [HW11.out]; decide)
  have pe0 := (P3.out.at0 (k := 0) (by rw [HLP.out]; decide)).1
  have pe1 := (P3.out.at0 (k := 1) (by rw [HLP.out]; decide)).1
  rw [HP0.out] at pe0
  rw [HP1.out] at pe1
  have ek := EK.out
  have ev := EV.out
  have hk := HK.out
  have hk' : (k : Int) < 11 := by omega
  have hv16 := HV.out
  have wk : IntKind.i64.wrap (k : Int) = (k : Int) := IntWalk.i64_in _ (by omega)
  have wv : IntKind.i64.wrap (v : Int) = (v : Int) := IntWalk.i64_in _ (by omega)
  obtain ⟨_, _, e1, ce, cf, cB, cS⟩ := C3.out.at (k := k) (by rw [HW11.out]; exact HK.out)
  cases e1
  have C4 : Hid (OwnJ w2.heap.size (.slice (some ⟨Cg, Co, none⟩) 11 Cc) (wl.set k (v : Int)) (w3.setCell ⟨Cg, Co + k, none⟩ (.int .i64 (v : Int)))) := C3.out.stored HW11.out HK.out _
  have HB4 : Hid (Below w.heap.size w (w3.setCell ⟨Cg, Co + k, none⟩ (.int .i64 (v : Int)))) := HB3.out.setCell (Nat.le_trans SZ2.out cB) _
  clear C3 P3 HB3 cB cS
  go_wp2_with fail
  clear ce cf pe0 pe1 ek ev wk wv
  generalize (w3.setCell ⟨Cg, Co + k, none⟩ (.int .i64 (v : Int))) = w4 at C4 HB4 ⊢
  refine (DEC.out (some ⟨Cg, Co, none⟩) 11 Cc (wl.set k (v : Int)) x c1 a1 HDEC.out HB11.out (by decide) hcC.out _ C4.out.row).mono ?_
  rintro e w5 ⟨rfl, hb5⟩
  have HB5 : Hid (Below w.heap.size w w5) := HB4.out.trans (hb5.mono HB4.out.size)
  have C5 : Hid (OwnJ w2.heap.size (.slice (some ⟨Cg, Co, none⟩) 11 Cc) (wl.set k (v : Int)) w5) := C4.out.below hb5
  clear C4
  clear hb5 HB4
  have hts := HTS.out
  have hts' : ((tx.size : Nat) : Int) = 11 := by omega
  go_wp2_with fail
  refine (FMT.out (some ⟨Cg, Co, none⟩) 11 Cc (wl.set k (v : Int)) tx HTX.out HB11.out (by decide) hcC.out _ C5.out.row).mono ?_
  rintro e w6 ⟨rfl, hb6⟩
  have HB6 : Hid (Below w.heap.size w w6) := HB5.out.trans (hb6.mono HB5.out.size)
  have C6 : Hid (OwnJ w2.heap.size (.slice (some ⟨Cg, Co, none⟩) 11 Cc) (wl.set k (v : Int)) w6) := C5.out.below hb6
  clear C5
  clear hb6 HB5
  go_wp2_with fail
  go_ret
  exact ⟨rfl, HB6.out⟩

end Go.Proofs.YtpddinflkkcodaaDoor

namespace Go.Proofs.YtpddinflkkcodaaDoor
open Go.RowKit Go.PlainAid

set_option linter.unusedVariables false

theorem implBad_is (a : Int) (v : Bool) (hv : (!decide (El a)) = v) (w : World) :
    Calls Tryd.prog 36 #[.int .i64 a] w (Says (.bool v) w) := by
  obtain ⟨u, hu⟩ : ∃ u, decide (El a) = u := ⟨_, rfl⟩
  have HE : Hid ((!u) = v) := by show _ = _; rw [← hu]; exact hv
  have HU := Lib.hid hu
  clear hu hv
  go_enter Tryd.func36, Tryd.ntmps36
  go_wp2_with fail
  refine (implIsEl_is a u HU.out _).mono ?_
  rintro e w2 ⟨rfl, rfl⟩
  go_wp2_with fail
  go_ret
  exact ⟨ret_b HE.out, rfl⟩

set_option maxHeartbeats 1000000 in
set_option maxRecDepth 100000 in
theorem implIndexBad_is {a : Option Addr} {n c : Nat} {l : List Int} (hn : l.length = n) (hl : n ≤ 3000000) {w : World} (h : RowI w a l) (v : Bool) (hv : decide (Els l) = v) :
    Calls Tryd.prog 47 #[.slice a n c, .func (.func 36) #[] #[]] w fun e w' => ∃ i : Int, e = .returned (.int .i64 i) ∧ decide (0 ≤ i) = (!v) ∧ w = w' := by
  have HN := Lib.hid hn
  have HA := Lib.hid h
  have HV := Lib.hid hv
  have hl2 : (n : Int) ≤ 9223372036854775807 := by omega
  clear hn h hv
  go_enter Tryd.func47, Tryd.ntmps47
  go_wp2_with fail
  go_loopw [8] (fun i wr => ∃ k : Nat, k ≤ n ∧ i = .int .i64 k ∧ Els (l.take k) ∧ wr = w) (fun i _ => n - (intOf i).toNat)
  case atStart => exact ⟨0, Nat.zero_le _, rfl, (fun v hv => by cases hv), rfl⟩
  case round =>
    obtain ⟨k, hk, rfl, hels, rfl⟩ := hrel
    have HE := Lib.hid hels
    clear hels
    by_cases hlt : k < n
    · obtain ⟨ga, oa, rfl, hca⟩ := HA.out.at (k := k) (by rw [HN.out]; exact hlt)
      obtain ⟨x, hx⟩ : ∃ x, l.getD k 0 = x := ⟨_, rfl⟩
      rw [hx] at hca
      by_cases he : El x
      · have HS := Lib.hid (els_take (by rw [HN.out]; exact hlt) HE.out (hx ▸ he))
        have KA : Hid ((!decide (El x)) = false) := by show _ = _; rw [decide_eq_true he]; rfl
        clear hx he
        go_wp2_with fail
        refine (implBad_is x false KA.out _).mono ?_
        rintro e w2 ⟨rfl, rfl⟩
        go_wp2_with fail
        go_roundw
        case rel => exact ⟨k + 1, by omega, by go_num, HS.out, by trivial⟩
        case measure => simp [intOf]; omega
      · have HF : Hid (false = v) := by show _ = _; rw [← HV.out]; exact (decide_eq_false (fun q => he (hx ▸ el_getD q (by rw [HN.out]; exact hlt)))).symm
        have KA : Hid ((!decide (El x)) = true) := by show _ = _; rw [decide_eq_false he]; rfl
        clear hx he
        go_wp2_with fail
        refine (implBad_is x true KA.out _).mono ?_
        rintro e w2 ⟨rfl, rfl⟩
        go_wp2_with fail
        go_ret
        exact ⟨_, rfl, by rw [← HF.out]; exact decide_eq_true (by omega), rfl⟩
    · obtain rfl : k = n := by omega
      have HF : Hid (true = v) := by
        show _ = _
        rw [← HV.out]
        have := HE.out
        rw [List.take_of_length_le (by rw [HN.out]; omega)] at this
        exact (decide_eq_true this).symm
      go_wp2_with fail
      go_ret
      exact ⟨_, rfl, by rw [← HF.out]; rfl, rfl⟩

theorem implContainsBad_is {a : Option Addr} {n c : Nat} {l : List Int} (hn : l.length = n) (hl : n ≤ 3000000) {w : World} (h : RowI w a l) (v : Bool) (hv : decide (Els l) = v) :
    Calls Tryd.prog 35 #[.slice a n c, .func (.func 36) #[] #[]] w (Says (.bool (!v)) w) := by
  have HN := Lib.hid hn
  have HA := Lib.hid h
  have HV := Lib.hid hv
  clear hn h hv
  go_enter Tryd.func35, Tryd.ntmps35
  go_wp2_with fail
  refine (implIndexBad_is HN.out hl HA.out v HV.out).mono ?_
  rintro e w2 ⟨i, rfl, hi, rfl⟩
  have HI := Lib.hid hi
  clear hi
  go_wp2_with fail
  go_ret
  exact ⟨ret_b HI.out, rfl⟩

theorem implSymbolsOk_is : ISymbolsOk := by
  intro a n c l m v hv hn hl hc w h
  by_cases hm : (n : Int) = m
  case neg =>
    have tm : ((n : Int) == m) = false := by simpa using hm
    obtain rfl : v = false := by rw [← hv]; exact decide_eq_false fun q => hm (by rw [← hn]; exact q.2)
    clear hv h hm hn
    go_enter Tryd.func23, Tryd.ntmps23
    go_wp2_with fail
    go_ret
    exact ⟨rfl, Below.refl _ _⟩
  have HE : Hid (decide (Els l) = v) := by
    show _ = _
    rw [← hv]
    exact decide_eq_decide.mpr ⟨fun q => ⟨q, by rw [hn]; exact hm⟩, fun q => q.1⟩
  have HN := Lib.hid hn
  have HA := Lib.hid h
  clear hv hn h
  subst hm
  have tm : ((n : Int) == (n : Int)) = true := by simp
  go_enter Tryd.func23, Tryd.ntmps23
  go_wp2_with fail
  refine (implContainsBad_is HN.out hl HA.out v HE.out).mono ?_
  rintro e w2 ⟨rfl, rfl⟩
  go_wp2_with fail
  go_ret
  exact ⟨rfl, Below.refl _ _⟩

set_option maxHeartbeats 2000000 in
set_option maxRecDepth 100000 in
theorem implEqualI_is {a b : Option Addr} {n m c d : Nat} {xs ys : List Int} (hx : xs.length = n) (hy : ys.length = m) (hl : n ≤ 3000000) (hm : m ≤ 3000000) {w : World} (ha : RowI w a xs) (hb : RowI w b ys) (v : Bool) (hv : decide (xs = ys) = v) :
    Calls Tryd.prog 45 #[.slice a n c, .slice b m d] w fun e w' => e = .returned (.bool v) ∧ ∃ q, w' = w.drewN q := by
  have HX := Lib.hid hx
  have HY := Lib.hid hy
  have HA := Lib.hid ha
  have HB := Lib.hid hb
  by_cases hnm : n = m
  case neg =>
    have tn : ((n : Int) != (m : Int)) = true := by rw [bne_iff_ne]; omega
    have HF : Hid (false = v) := by show _ = _; rw [← hv]; exact (decide_eq_false (fun e => hnm (by rw [← hx, ← hy, e]))).symm
    clear hx hy ha hb hv hnm
    go_enter Tryd.func45, Tryd.ntmps45
    go_wp2_with fail
    go_ret
    exact ⟨ret_b HF.out, 0, rfl⟩
  subst hnm
  have HV := Lib.hid hv
  have tn : ((n : Int) != (n : Int)) = false := by simp
  clear hx hy ha hb hv
  go_enter Tryd.func45, Tryd.ntmps45
  go_wp2_with fail
  go_loopw [13] (fun i wr => ∃ k q : Nat, k ≤ n ∧ i = .int .i64 k ∧ (∀ j, j < k → xs.getD j 0 = ys.getD j 0) ∧ wr = w.drewN q) (fun i _ => n - (intOf i).toNat)
  case atStart => exact ⟨0, 0, Nat.zero_le _, rfl, (fun j hj => absurd hj (Nat.not_lt_zero _)), rfl⟩
  case round =>
    obtain ⟨k, q, hk, rfl, heq, rfl⟩ := hrel
    have HE := Lib.hid heq
    clear heq
    by_cases hlt : k < n
    · obtain ⟨ga, oa, rfl, hca⟩ := HA.out.at (k := k) (by rw [HX.out]; exact hlt)
      obtain ⟨gb, ob, rfl, hcb⟩ := HB.out.at (k := k) (by rw [HY.out]; exact hlt)
      obtain ⟨x, hx⟩ : ∃ x, xs.getD k 0 = x := ⟨_, rfl⟩
      obtain ⟨y, hy⟩ : ∃ y, ys.getD k 0 = y := ⟨_, rfl⟩
      rw [hx] at hca
      rw [hy] at hcb
      by_cases hxy : x = y
      · have HS : Hid (∀ j, j < k + 1 → xs.getD j 0 = ys.getD j 0) := fun j hj => by
          by_cases e : j = k
          · subst e; rw [hx, hy, hxy]
          · exact HE.out j (by omega)
        have txy : (x != y) = false := by rw [hxy]; simp
        clear hx hy hxy
        go_wp2_with fail
        go_quiet (fail)
        go_wp2
        go_roundw
        case rel => exact ⟨k + 1, _, by omega, by go_num, HS.out, rfl⟩
        case measure => simp [intOf]; omega
      · have HF : Hid (false = v) := by show _ = _; rw [← HV.out]; exact (decide_eq_false (fun e => hxy (by rw [← hx, ← hy, e]))).symm
        have txy : (x != y) = true := by rw [bne_iff_ne]; exact hxy
        clear hx hy hxy
        go_wp2_with fail
        go_quiet (fail)
        go_wp2
        go_ret
        exact ⟨ret_b HF.out, q + nq, by first | rfl | exact World.drewN_drewN _ _ _ | simp [World.drewN_add]⟩
    · obtain rfl : k = n := by omega
      have HF : Hid (true = v) := by
        show _ = _
        rw [← HV.out]
        refine (decide_eq_true ?_).symm
        apply List.ext_getElem (by rw [HX.out, HY.out])
        intro i h1 h2
        have := HE.out i (by rw [← HX.out]; exact h1)
        rwa [List.getD_eq_getElem?_getD, List.getD_eq_getElem?_getD, List.getElem?_eq_getElem h1, List.getElem?_eq_getElem h2] at this
      go_wp2_with fail
      go_ret
      exact ⟨ret_b HF.out, _, rfl⟩

end Go.Proofs.YtpddinflkkcodaaDoor

namespace Go.Proofs.YtpddinflkkcodaaDoor
open Go.RowKit Go.PlainAid

set_option linter.unusedVariables false

theorem getD_append_left {u v : List Int} {i : Nat} (h : i < u.length) : (u ++ v).getD i 0 = u.getD i 0 := by
  rw [List.getD_eq_getElem?_getD, List.getElem?_append_left h, ← List.getD_eq_getElem?_getD]

theorem copy_row {ops : Array Oper} {rest : List Oper} {o : Oper} {a : Act} {w : World} {Q : Exit → Act → World → Prop} (hgd : o.guard = none) (d s : Operand) (ho : o.op = .call { callee := .builtin .copy, args := #[d, s], argTypes := #[25, 25] })
    (B g off n c : Nat) (l : List Int) (hd : a.eval d = .slice (some ⟨g, off, none⟩) n c) (hown : OwnJ B (.slice (some ⟨g, off, none⟩) n c) l w) (ad : Addr) (m sc : Nat) (l2 : List Int) (hs : a.eval s = .slice (some ad) m sc) (hrow : RowI w (some ad) l2) (hm : l2.length = m) (hmn : m ≤ n) (hn0 : 0 < n)
    (h : ∀ w', OwnJ B (.slice (some ⟨g, off, none⟩) n c) (l2 ++ l.drop m) w' → Below B w w' → wpList Tryd.prog ops Q rest (a.put o.dst (.int .i64 (m : Int))) w') : wpList Tryd.prog ops Q (o :: rest) a w := by
  obtain ⟨_, _, _, hv, hl, ⟨h1, _, _⟩ | ⟨g', off', cur, hg, hB, hh, hc⟩⟩ := hown
  · cases hv; cases h1
  cases hv
  cases hg
  have hlast := hc (n - 1) (by omega)
  have hsz : off + n ≤ cur.size := by
    have := (Array.getElem?_eq_some_iff.1 hlast).1
    omega
  refine wpList_copy_splice hgd d s _ _ ho 3 Tryd.underlying25 (by kernel_rfl) (some ⟨g, off, none⟩) (some ad) n c m sc hd hs g off cur.toList 3 (by simpa using hh) (l2.map (Value.int .i64)) (by rw [List.length_map, hm]; exact (Nat.min_eq_left hmn).symm) (fun _ => ⟨rfl, ad, rfl, fun j u hj => ?_⟩) (by rw [List.length_map, hm]; simpa using (by omega : off + m ≤ cur.size)) (fun u hu => by obtain ⟨z, _, rfl⟩ := List.mem_map.1 hu; rfl) B w (Below.refl _ _) hB ?_
  · rw [List.getElem?_map] at hj
    rcases Nat.lt_or_ge j l2.length with hjl | hjl
    · rw [List.getElem?_eq_getElem hjl] at hj
      cases hj
      obtain ⟨b, o2, e, hcell⟩ := hrow.at hjl
      cases e
      rw [Addr.add_lit, hcell, List.getD_eq_getElem?_getD, List.getElem?_eq_getElem hjl]
      rfl
    · rw [List.getElem?_eq_none hjl] at hj
      cases hj
  · intro w' hw' hb'
    have := h w' ⟨_, _, _, rfl, by rw [List.length_append, List.length_drop, hm]; omega, .inr ⟨g, off, _, rfl, hB, hw'.out, fun i hi => ?_⟩⟩ hb'
    · rw [List.length_map, hm]
      exact this
    · rw [List.getElem?_toArray]
      unfold splice
      have hlt : (cur.toList.take off).length = off := by rw [List.length_take]; simp; omega
      rw [List.getElem?_append_right (by omega), hlt, Nat.add_sub_cancel_left]
      by_cases him : i < m
      · rw [List.getElem?_append_left (by rw [List.length_map]; omega), List.getElem?_map, getD_append_left (by omega), List.getElem?_eq_getElem (by omega), List.getD_eq_getElem?_getD, List.getElem?_eq_getElem (by omega)]
        rfl
      · rw [List.getElem?_append_right (by rw [List.length_map]; omega), List.length_map, hm, List.getElem?_drop, Array.getElem?_toList, show off + m + (i - m) = off + i by omega, hc i hi, List.getD_eq_getElem?_getD, List.getD_eq_getElem?_getD, List.getElem?_append_right (by omega), hm, List.getElem?_drop, show m + (i - m) = i by omega]

end Go.Proofs.YtpddinflkkcodaaDoor
