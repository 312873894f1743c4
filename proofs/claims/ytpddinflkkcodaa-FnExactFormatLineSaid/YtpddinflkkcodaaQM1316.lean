/-
  Texts of one proof, merged: RdyC, RdyJ, CodI, LinI, CodW, CodV, CodU, CodF, LinW, LinF, LinL, CodQ, CopyR.
-/
import Derived.Test.YtpddinflkkcodaaQM131
import Derived.Test.YtpddinflkkcodaaQM132
import Derived.Test.YtpddinflkkcodaaQM133
import Derived.Test.YtpddinflkkcodaaQM134
import Derived.Test.YtpddinflkkcodaaQM135
import Derived.Test.YtpddinflkkcodaaQM136
import Derived.Test.YtpddinflkkcodaaQM138
import Derived.Test.YtpddinflkkcodaaQM139
import Derived.Test.YtpddinflkkcodaaQM1312
import Derived.Test.YtpddinflkkcodaaQM1313
import Derived.Test.YtpddinflkkcodaaQM1315
import Derived.Laws.CopyOwn
import Derived.Maps.AppendAt
namespace Go.Proofs.Ytpddinflkkcodaa
open Go.RowKit Go.PlainAid

set_option linter.unusedVariables false

theorem RowI.src {w : World} {ad : Addr} {l : List Int} (h : RowI w (some ad) l) : ∀ j u, (l.map (Value.int .i64))[j]? = some u → w.cell? (ad.add j) = some u := by
  rcases h with rfl | ⟨b, off, hb, h⟩
  · intro j u hu; simp at hu
  · cases hb
    intro j u hu
    rw [List.getElem?_map] at hu
    cases hl : l[j]? with
    | none => rw [hl] at hu; cases hu
    | some z =>
      rw [hl] at hu
      cases hu
      have hj : j < l.length := by
        rcases Nat.lt_or_ge j l.length with h1 | h1
        · exact h1
        · rw [List.getElem?_eq_none h1] at hl; cases hl
      have h2 := h j hj
      rw [List.getD_eq_getElem?_getD, hl] at h2
      unfold Addr.add
      by_cases h0 : j = 0
      · subst h0
        rw [if_pos rfl]
        exact h2
      · rw [if_neg h0]
        exact h2

/-- Holds behind operation L. -/
def FromW (L : Nat) (F : World → Prop) (listed : Array Bool) (u : World) : Prop := listed.getD L false = true → F u

theorem FromW.zero (L : Nat) (F : World → Prop) (n : Nat) (u : World) : FromW L F (Array.replicate n false) u := fun h => by rw [getD_replicate_false] at h; cases h

theorem FromW.no {L i : Nat} {F : World → Prop} {listed : Array Bool} {u : World} (h : listed.getD L false = false) (hi : i ≠ L) : FromW L F (listed.setIfInBounds i true) u := fun h2 => by rw [getD_set_ne false hi, h] at h2; cases h2

/-- Operation L comes last. -/
def AllW (L : Nat) (listed : Array Bool) : Prop := ∀ j, j < L → Aft L j listed

theorem AllW.keep {L i : Nat} {listed : Array Bool} (h : AllW L listed) (hi : i ≠ L) : AllW L (listed.setIfInBounds i true) := fun j hj => (h j hj).keep hi

/-- The rows that operations i and j answered lie apart, till operation m. -/
def AptR (i j m n1 n2 : Nat) (listed : Array Bool) (x : Nat → Value) : Prop := listed.getD j false = true → listed.getD m false = false → ∃ aa ca ab cb, x i = .slice aa n1 ca ∧ x j = .slice ab n2 cb ∧ Apt aa ab

theorem AptR.zero (i j m n1 n2 n : Nat) (x : Nat → Value) : AptR i j m n1 n2 (Array.replicate n false) x := fun h => by rw [getD_replicate_false] at h; cases h

theorem AptR.keep {i j m n1 n2 : Nat} {listed : Array Bool} {x : Nat → Value} (h : AptR i j m n1 n2 listed x) {k : Nat} (hi : k ≠ i) (hj : k ≠ j) (hm : k ≠ m) (v : Value) : AptR i j m n1 n2 (listed.setIfInBounds k true) (upd x k v) := fun h1 h2 => by
  rw [getD_set_ne false hj] at h1
  rw [getD_set_ne false hm] at h2
  rw [upd_other _ _ (Ne.symm hi), upd_other _ _ (Ne.symm hj)]
  exact h h1 h2

theorem AptR.no {i j m n1 n2 : Nat} {listed : Array Bool} {x : Nat → Value} (h : listed.getD j false = false) {k : Nat} (hj : k ≠ j) (v : Value) : AptR i j m n1 n2 (listed.setIfInBounds k true) (upd x k v) := fun h1 _ => by
  rw [getD_set_ne false hj, h] at h1; cases h1

theorem AptR.new {i j m n1 n2 : Nat} {listed : Array Bool} {x : Nat → Value} {ab : Option Addr} {cb : Nat} (hij : i ≠ j) (h : ∃ aa ca, x i = .slice aa n1 ca ∧ Apt aa ab) : AptR i j m n1 n2 (listed.setIfInBounds j true) (upd x j (.slice ab n2 cb)) := fun _ _ => by
  obtain ⟨aa, ca, e1, e2⟩ := h
  exact ⟨aa, ca, ab, cb, by rw [upd_other _ _ hij]; exact e1, upd_same _ _ _, e2⟩

theorem AptR.call {i j m n1 n2 : Nat} {listed : Array Bool} {x : Nat → Value} (h : m < listed.size) : AptR i j m n1 n2 (listed.setIfInBounds m true) x := fun _ h2 => by rw [get_set_same false h] at h2; cases h2

/-- Numbers appended to a row of the call's own; where the new row lies. -/
theorem append_int {ops : Array Oper} {rest : List Oper} {o : Oper} {a : Act} {w : World} {Q : Exit → Act → World → Prop} (hgd : o.guard = none) (s x : Operand) (ho : o.op = .call { callee := .builtin .append, args := #[s, x], argTypes := #[25, 25] })
    (base : Nat) (v : Value) (n : Nat) (xs : List Int) (hs : a.eval s = v) (hown : OwnI base v xs w) (hxn : xs.length = n) (ad : Option Addr) (m c : Nat) (news : List Int) (hx : a.eval x = .slice ad m c) (hl : news.length = m) (hnc : ad = none → c = 0) (hrow : RowI w ad news) (hbig : n + m ≤ 3500000) (hbase : base ≤ w.heap.size)
    (h : ∀ v' w', OwnI base v' (xs ++ news) w' → w.grownBy w' v.ownBlock → (v'.ownBlock = v.ownBlock ∨ v'.ownBlock = some w.heap.size) → wpList Try.prog ops Q rest (a.put o.dst v') w') : wpList Try.prog ops Q (o :: rest) a w := by
  obtain ⟨i0, hi, hz0, hz1, hz2⟩ := info_parts infoI
  have hown' : w.ownsRow base 3 1 v n (xs.map (Value.int .i64)) := by
    have h2 := hown
    unfold OwnI at h2
    rw [hxn] at h2
    exact h2
  cases ad with
  | none =>
    obtain rfl : c = 0 := hnc rfl
    have hn0 : news = [] := by
      rcases hrow with h2 | ⟨_, _, h2, _⟩
      · exact h2
      · cases h2
    subst hn0
    obtain rfl : m = 0 := hl.symm
    refine wpList_append_own_none hgd s x 25 ho base 3 i0 1 Try.underlying25 hi v n _ hs hown' hx (h v w ?_ ⟨rfl, rfl, rfl, Nat.le_refl _, fun _ _ _ => rfl⟩ (.inl rfl))
    rw [List.append_nil]
    exact hown
  | some ad =>
    have hfl : (news.map (Value.int .i64)).length = m * 1 := by rw [List.length_map, hl, Nat.mul_one]
    refine wpList_append_own_at _ hgd s x 25 ho base 3 i0 (.int .i64 0) 1 8 Try.underlying25 hi hz0 hz1 hz2 rfl (by decide) v n _ hs hown' ad m c (news.map (Value.int .i64)) hx hfl (RowI.src hrow) (fun u hu => by obtain ⟨z, _, rfl⟩ := List.mem_map.1 hu; rfl) (by unfold maxLen; omega) (by omega) hbase ?_
    intro v' w' ho2 hg _ hat
    refine h v' w' ?_ hg hat
    unfold OwnI
    rw [List.length_append, hxn, hl, List.map_append]
    exact ho2

end Go.Proofs.Ytpddinflkkcodaa

namespace Go.Proofs.Ytpddinflkkcodaa
open Go.RowKit Go.PlainAid

set_option linter.unusedVariables false

/-- A row of numbers in a block of the call's own. -/
def OwnJ (B : Nat) (v : Value) (l : List Int) (w : World) : Prop :=
  ∃ a n c, v = .slice a n c ∧ l.length = n ∧ ((a = none ∧ n = 0 ∧ c = 0) ∨ ∃ g off cur, a = some ⟨g, off, none⟩ ∧ B ≤ g ∧ w.heap[g]? = some (.cells cur 3 (0, 0)) ∧ ∀ i, i < n → cur[off + i]? = some (.int .i64 (l.getD i 0)))

theorem OwnI.toJ {B n c : Nat} {a : Option Addr} {l : List Int} {w : World} (hn : l.length = n) (h : OwnI B (.slice a n c) l w) : OwnJ B (.slice a n c) l w := by
  refine ⟨a, n, c, rfl, hn, ?_⟩
  rcases h.2 with ⟨hv, h0⟩ | ⟨g, cap, cur, hv, hB, hh, _, _, hs, ht⟩
  · cases hv
    exact .inl ⟨rfl, by omega, rfl⟩
  · cases hv
    refine .inr ⟨g, 0, cur, rfl, hB, hh, fun i hi => ?_⟩
    rw [Nat.zero_add]
    have h1 : (cur.toList.take (l.length * 1))[i]? = (l.map (Value.int .i64))[i]? := by rw [ht]
    rw [List.getElem?_take_of_lt (by omega), List.getElem?_map] at h1
    rw [← Array.getElem?_toList, h1, List.getD_eq_getElem?_getD]
    cases e : l[i]? with
    | none => rw [List.getElem?_eq_none_iff] at e; omega
    | some z => rfl

theorem OwnJ.at {B n c : Nat} {a : Option Addr} {l : List Int} {w : World} (h : OwnJ B (.slice a n c) l w) {k : Nat} (hk : k < l.length) :
    ∃ g off, a = some ⟨g, off, none⟩ ∧ w.cell? ⟨g, off + k, none⟩ = some (.int .i64 (l.getD k 0)) ∧ w.frozen? ⟨g, off + k, none⟩ = false ∧ B ≤ g ∧ g < w.heap.size := by
  obtain ⟨_, _, _, hv, hl, h | ⟨g, off, cur, rfl, hB, hh, hc⟩⟩ := h
  · cases hv; omega
  · cases hv
    exact ⟨g, off, rfl, by simp only [World.cell?, hh]; exact hc k (by omega), by simp [World.frozen?, hh], hB, lt_of_block hh⟩

theorem OwnJ.row {B n c : Nat} {a : Option Addr} {l : List Int} {w : World} (h : OwnJ B (.slice a n c) l w) : RowI w a l := by
  obtain ⟨_, _, _, hv, hl, ⟨h1, h2, h3⟩ | ⟨g, off, cur, rfl, hB, hh, hc⟩⟩ := h
  · cases hv
    exact .inl (List.length_eq_zero_iff.1 (by omega))
  · cases hv
    exact .inr ⟨g, off, rfl, fun i hi => by simp only [World.cell?, hh]; exact hc i (by omega)⟩

theorem OwnJ.mono {B C : Nat} {v : Value} {l : List Int} {w : World} (h : OwnJ B v l w) (hC : C ≤ B) : OwnJ C v l w := by
  obtain ⟨a, n, c, hv, hl, h | ⟨g, off, cur, ha, hB, hh, hc⟩⟩ := h
  · exact ⟨a, n, c, hv, hl, .inl h⟩
  · exact ⟨a, n, c, hv, hl, .inr ⟨g, off, cur, ha, Nat.le_trans hC hB, hh, hc⟩⟩

theorem OwnJ.same {B n c : Nat} {a : Option Addr} {l : List Int} {w w' : World} (h : OwnJ B (.slice a n c) l w) (hk : ∀ x, a = some x → w'.heap[x.block]? = w.heap[x.block]?) : OwnJ B (.slice a n c) l w' := by
  obtain ⟨_, _, _, hv, hl, h | ⟨g, off, cur, rfl, hB, hh, hc⟩⟩ := h
  · exact ⟨_, _, _, hv, hl, .inl h⟩
  · cases hv
    exact ⟨_, _, _, rfl, hl, .inr ⟨g, off, cur, rfl, hB, (hk _ rfl).trans hh, hc⟩⟩

theorem OwnJ.lo {B n c : Nat} {a : Option Addr} {l : List Int} {w : World} (h : OwnJ B (.slice a n c) l w) : ∀ x, a = some x → B ≤ x.block ∧ x.block < w.heap.size := by
  obtain ⟨_, _, _, hv, hl, ⟨h1, _, _⟩ | ⟨g, off, cur, rfl, hB, hh, hc⟩⟩ := h
  · cases hv
    rintro x rfl
    cases h1
  · cases hv
    rintro x hx
    cases hx
    exact ⟨hB, lt_of_block hh⟩

theorem OwnJ.nil {B n c : Nat} {a : Option Addr} {l : List Int} {w : World} (h : OwnJ B (.slice a n c) l w) : a = none → c = 0 := by
  obtain ⟨_, _, _, hv, hl, ⟨h1, h2, h3⟩ | ⟨g, off, cur, rfl, hB, hh, hc⟩⟩ := h
  · cases hv
    exact fun _ => h3
  · cases hv
    intro h
    cases h

theorem OwnJ.below {B n c : Nat} {a : Option Addr} {l : List Int} {w w' : World} (h : OwnJ B (.slice a n c) l w) (hb : Below w.heap.size w w') : OwnJ B (.slice a n c) l w' :=
  h.same (fun x hx => hb.block _ (h.lo x hx).2)

theorem OwnJ.keep {B c n : Nat} {a : Option Addr} {l : List Int} {w w' : World} {g : Nat} (h : OwnJ B (.slice a n c) l w) (ho : Only g w w') (hne : ∀ x, a = some x → x.block ≠ g) : OwnJ B (.slice a n c) l w' :=
  h.same (fun x hx => ho.block _ (h.lo x hx).2 (hne x hx))

theorem OwnJ.alloc {B c n : Nat} {a : Option Addr} {l : List Int} {w : World} (p : OwnJ B (.slice a n c) l w) (o : Obj) : OwnJ B (.slice a n c) l (w.alloc o) :=
  p.below ((Below.refl _ _).alloc (Nat.le_refl _) o)

theorem OwnJ.set {B c n : Nat} {a : Option Addr} {l : List Int} {w : World} {p : Addr} (h : OwnJ B (.slice a n c) l w) (hp : ∀ x, a = some x → x.block ≠ p.block) (v : Value) : OwnJ B (.slice a n c) l (w.setCell p v) :=
  h.same (fun x hx => Below.heap_setCell _ _ _ _ (hp x hx))

theorem OwnJ.stored {B n c g off : Nat} {l : List Int} {w : World} (h : OwnJ B (.slice (some ⟨g, off, none⟩) n c) l w) (hl : l.length = n) {k : Nat} (hk : k < n) (x : Int) : OwnJ B (.slice (some ⟨g, off, none⟩) n c) (l.set k x) (w.setCell ⟨g, off + k, none⟩ (.int .i64 x)) := by
  obtain ⟨_, _, _, hv, _, ⟨h1, _, _⟩ | ⟨g', off', cur, hg, hB, hh, hc⟩⟩ := h
  · cases hv; cases h1
  · cases hv
    cases hg
    refine ⟨_, _, _, rfl, by rw [List.length_set]; exact hl, .inr ⟨g, off, cur.setIfInBounds (off + k) (.int .i64 x), rfl, hB, ?_, fun i hi => ?_⟩⟩
    · exact set_cells hh (off + k) (.int .i64 x)
    · by_cases e : i = k
      · subst e
        have hlt : off + i < cur.size := by
          have := hc i hi
          rcases Nat.lt_or_ge (off + i) cur.size with h | h
          · exact h
          · rw [Array.getElem?_eq_none h] at this; cases this
        rw [Array.getElem?_setIfInBounds_self_of_lt hlt, List.getD_eq_getElem?_getD, List.getElem?_set_self (by omega)]
        rfl
      · rw [Array.getElem?_setIfInBounds_ne (by omega), List.getD_eq_getElem?_getD, List.getElem?_set_ne (by omega), ← List.getD_eq_getElem?_getD]
        exact hc i hi

set_option maxHeartbeats 1000000 in
/-- Two rows of numbers that are alike. -/
theorem eqIntS_row {a b : Option Addr} {ca cb : Nat} {l : List Int} {w : World} {n : Nat} (hn : l.length = n) (ha : RowI w a l) (hb : RowI w b l) (hl : (n : Int) ≤ 9223372036854775807) :
    Calls Try.prog 13 #[.slice a n ca, .slice b n cb] w (Gives (.bool true) w) := by
  have HN := Lib.hid hn
  have HA := Lib.hid ha
  have HB := Lib.hid hb
  clear hn ha hb
  go_enter Try.func13, Try.ntmps13
  go_wp2_with fail
  go_loopw [5] (fun i wr => ∃ k : Nat, k ≤ n ∧ i = .int .i64 k ∧ ∃ q, wr = w.drewN q) (fun i _ => n - (intOf i).toNat)
  case atStart => exact ⟨0, Nat.zero_le _, rfl, 0, rfl⟩
  case round =>
    obtain ⟨k, hk, rfl, q, rfl⟩ := hrel
    by_cases hlt : k < n
    · obtain ⟨ga, oa, rfl, hca⟩ := HA.out.at (k := k) (by rw [HN.out]; exact hlt)
      obtain ⟨gb, ob, rfl, hcb⟩ := HB.out.at (k := k) (by rw [HN.out]; exact hlt)
      obtain ⟨x, hx⟩ : ∃ x, l.getD k 0 = x := ⟨_, rfl⟩
      rw [hx] at hca hcb
      have txx : (x != x) = false := by simp
      clear hx
      go_wp2_with fail
      go_quiet (fail)
      go_wp2
      go_roundw
      case rel => exact ⟨k + 1, by omega, by go_num, _, rfl⟩
      case measure => simp [intOf]; omega
    · go_wp2_with fail
      go_ret
      exact ⟨rfl, rfl, rfl, rfl, Nat.le_refl _, fun _ _ => rfl⟩

set_option maxHeartbeats 1000000 in
theorem markIntS_j {B : Nat} {a : Option Addr} {c : Nat} {l : List Int} {w : World} {n : Nat} (hn : l.length = n) (h : OwnJ B (.slice a n c) l w) (k0 : Nat) (h1 : k0 + n ≤ 1000000000) (g0 : Nat) (hg0 : ∀ x, a = some x → x.block = g0) :
    Calls Try.prog 14 #[.slice a n c, .int .i64 k0] w fun e w' => e = .returned (.int .i64 ((k0 + n : Nat) : Int)) ∧ OwnJ B (.slice a n c) (marksI k0 n) w' ∧ Only g0 w w' := by
  have HN := Lib.hid hn
  have HO := Lib.hid h
  have HG0 := Lib.hid hg0
  clear hn h hg0
  go_enter Try.func14, Try.ntmps14
  go_wp2_with fail
  go_loopw [1, 5] (fun m i wr => ∃ k : Nat, k ≤ n ∧ i = .int .i64 k ∧ m = .int .i64 ((k0 + k : Nat) : Int) ∧ OwnJ B (.slice a n c) (marksI k0 k ++ l.drop k) wr ∧ Only g0 w wr) (fun _ i _ => n - (intOf i).toNat)
  case atStart => exact ⟨0, Nat.zero_le _, rfl, rfl, by simpa [marksI] using HO.out, Only.refl _ _⟩
  case round =>
    obtain ⟨k, hk, rfl, rfl, hown, hok⟩ := hrel
    by_cases hlt : k < n
    · have hlen : (marksI k0 k ++ l.drop k).length = n := by have := HN.out; simp [marksI_length]; omega
      obtain ⟨g, off, rfl, hc, hf, hB, hg⟩ := hown.at (k := k) (by rw [hlen]; exact hlt)
      have HL := Lib.hid hlen
      obtain ⟨old, hco⟩ : ∃ u, wr.cell? ⟨g, off + k, none⟩ = some u := ⟨_, hc⟩
      have HO2 := Lib.hid hown
      have HK2 := Lib.hid hok
      have HGG : Hid (g = g0) := HG0.out _ rfl
      have HST := Lib.hid (marksI_step k0 k l (by have := HN.out; omega))
      clear hc hlen hown hok
      go_wp2_with fail
      have R2 : OwnJ B (.slice (some ⟨g, off, none⟩) n c) (marksI k0 (k + 1) ++ l.drop (k + 1)) (wr.setCell ⟨g, off + k, none⟩ (.int .i64 ((k0 : Int) + (k : Int)))) := by
        rw [← HST.out]
        have := HO2.out.stored HL.out hlt (((k0 + k : Nat) : Int))
        rwa [show ((k0 + k : Nat) : Int) = (k0 : Int) + (k : Int) by simp] at this
      have HK3 := Lib.hid (HK2.out.setCell (p := ⟨g, off + k, none⟩) HGG.out (.int .i64 ((k0 : Int) + (k : Int))))
      go_roundw
      case rel => exact ⟨k + 1, by omega, by go_num, by go_num, R2, HK3.out⟩
      case measure => simp [intOf]; omega
    · obtain rfl : k = n := by omega
      have HF := Lib.hid hown
      go_wp2_with fail
      go_ret
      exact ⟨by first | rfl | exact ret_i (by omega), by have := HF.out; rwa [List.drop_of_length_le (by have := HN.out; omega), List.append_nil] at this, hok⟩

theorem marksI_getD (k0 : Nat) {n k : Nat} (h : k < n) : (marksI k0 n).getD k 0 = ((k0 + k : Nat) : Int) := by
  rw [List.getD_eq_getElem?_getD, List.getElem?_eq_getElem (by rw [marksI_length]; exact h), marksI_get]
  rfl

set_option maxHeartbeats 1000000 in
theorem heldIntS_row {a : Option Addr} {c : Nat} {n : Nat} {w : World} (k0 : Nat) (h : RowI w a (marksI k0 n)) (h1 : k0 + n ≤ 1000000000) :
    Calls Try.prog 15 #[.slice a n c, .int .i64 k0] w (Gives (.int .i64 ((k0 + n : Nat) : Int)) w) := by
  have HO := Lib.hid h
  clear h
  go_enter Try.func15, Try.ntmps15
  go_wp2_with fail
  go_loop [1, 5] (fun m i => ∃ k : Nat, k ≤ n ∧ i = .int .i64 k ∧ m = .int .i64 ((k0 + k : Nat) : Int)) (fun _ i => n - (intOf i).toNat)
  case atStart => exact ⟨0, Nat.zero_le _, rfl, rfl⟩
  case round =>
    obtain ⟨k, hk, rfl, rfl⟩ := hrel
    by_cases hlt : k < n
    · obtain ⟨g, off, rfl, hc⟩ := HO.out.at (k := k) (by rw [marksI_length]; exact hlt)
      rw [marksI_getD k0 hlt] at hc
      have hc' : w.cell? ⟨g, off + k, none⟩ = some (.int .i64 ((k0 : Int) + (k : Int))) := by rw [hc]; simp
      have txx : ((k0 : Int) + (k : Int) != (k0 : Int) + (k : Int)) = false := by simp
      clear hc
      go_wp2_with fail
      go_round
      case rel => exact ⟨k + 1, by omega, by go_num, by go_num⟩
      case measure => simp [intOf]; omega
    · obtain rfl : k = n := by omega
      go_wp2_with fail
      go_ret
      exact ⟨by first | rfl | exact ret_i (by omega), Below.refl _ _⟩

/-- A call that answers a summary whose rows are its own, the second one anywhere in its block. -/
def GivesRj (n1 n2 : Nat) (la ac : List Int) (w : World) (e : Ending) (w' : World) : Prop :=
  ∃ a1 c1 a2 c2, e = .returned (.agg #[.slice a1 n1 c1, .slice a2 n2 c2]) ∧ OwnI w.heap.size (.slice a1 n1 c1) la w' ∧ OwnJ w.heap.size (.slice a2 n2 c2) ac w' ∧ Apt a1 a2 ∧ Below w.heap.size w w'

theorem GivesRd.toJ {n1 n2 : Nat} {la ac : List Int} {w w' : World} {e : Ending} (hn : ac.length = n2) (h : GivesRd n1 n2 la ac w e w') : GivesRj n1 n2 la ac w e w' := by
  obtain ⟨a1, c1, a2, c2, rfl, o1, o2, hp, hb⟩ := h
  exact ⟨a1, c1, a2, c2, rfl, o1, o2.toJ hn, hp, hb⟩

end Go.Proofs.Ytpddinflkkcodaa

namespace Go.Proofs.Ytpddinflkkcodaa
open Go.RowKit Go.PlainAid

set_option linter.unusedVariables false

/-- A call that answers a row of numbers of its own, anywhere in its block. -/
def GivesJ (n : Nat) (l : List Int) (w : World) (e : Ending) (w' : World) : Prop :=
  ∃ a c, e = .returned (.slice a n c) ∧ n ≤ c ∧ OwnJ w.heap.size (.slice a n c) l w' ∧ Below w.heap.size w w'

/-- The same with two numbers behind the row. -/
def GivesV (n : Nat) (t : List Int × Int × Int) (w : World) (e : Ending) (w' : World) : Prop :=
  ∃ a c, e = .returned (.tuple #[.slice a n c, .int .i64 t.2.1, .int .i64 t.2.2]) ∧ n ≤ c ∧ OwnJ w.heap.size (.slice a n c) t.1 w' ∧ Below w.heap.size w w'

theorem apt_new {B n c n' c' : Nat} {a a' : Option Addr} {l l' : List Int} {w w' : World} (h : OwnJ B (.slice a n c) l w) (h' : OwnJ w.heap.size (.slice a' n' c') l' w') : Apt a a' := fun x y hx hy => by
  have h1 := (h.lo x hx).2
  have h2 := (h'.lo y hy).1
  omega

theorem OwnJ.pick {B n c : Nat} {a : Option Addr} {l : List Int} {w : World} (h : OwnJ B (.slice a n c) l w) : ∃ g, (∀ x, a = some x → x.block = g) ∧ B ≤ g ∧ ∀ k, k < w.heap.size → (∀ x, a = some x → x.block ≠ k) → k ≠ g := by
  have l1 := h.lo
  rcases a with _ | x
  · exact ⟨B + w.heap.size, (fun x h => by cases h), by omega, fun k hk _ => by omega⟩
  · exact ⟨x.block, (fun y h => by cases h; rfl), (l1 x rfl).1, fun k _ h => fun e => h x rfl e.symm⟩

theorem syns_le (w : List Int) : (syns w).length ≤ 11 := by unfold syns; split <;> simp

theorem dataI_le (w : List Int) : (dataI w).length ≤ 11 := by
  unfold dataI
  split
  · rename_i h
    have := h.2
    rw [List.length_drop]
    omega
  · simp

theorem corW_le (w : List Int) : (corW w).1.length ≤ 11 := by
  by_cases h : SymOk w 11
  · have h11 := h.2
    have : (corW w).1.length = w.length := by
      unfold corW
      rw [if_pos h]
      show (ints (correct (nats w)).1).length = _
      rw [ints_length]
      unfold correct
      split
      · exact nats_length w
      · split
        · exact nats_length w
        · show ((nats w).set _ _).length = _
          rw [List.length_set]; exact nats_length w
    omega
  · have : corW w = ([], 2, -1) := if_neg h
    rw [this]
    simp

def ISymbolsOk : Prop := ∀ (a : Option Addr) (n c : Nat) (l : List Int) (m : Int) (v : Bool) (hv : decide (SymOk l m) = v) (hn : l.length = n) (hl : n ≤ 3000000) (hc : n ≤ c) (w : World) (h : RowI w a l), Calls Try.prog 26 #[.slice a n c, .int .i64 m] w (Gives (.bool v) w)

def IWordOk : Prop := ∀ (a : Option Addr) (n c : Nat) (l : List Int) (v : Bool) (hv : decide (goodW l) = v) (hn : l.length = n) (hl : n ≤ 3000000) (hc : n ≤ c) (w : World) (h : RowI w a l), Calls Try.prog 47 #[.slice a n c] w (Gives (.bool v) w)

def ISyndromes : Prop := ∀ (a : Option Addr) (n c : Nat) (l : List Int) (k : Nat) (hk : k ≤ 11) (v : List Int) (hv : syns l = v) (hk2 : v.length = k) (hn : l.length = n) (hl : n ≤ 3000000) (hc : n ≤ c) (w : World) (h : RowI w a l), Calls Try.prog 52 #[.slice a n c] w (GivesJ k v w)

def IDataOf : Prop := ∀ (a : Option Addr) (n c : Nat) (l : List Int) (k : Nat) (hk : k ≤ 11) (v : List Int) (hv : dataI l = v) (hk2 : v.length = k) (hn : l.length = n) (hl : n ≤ 3000000) (hc : n ≤ c) (w : World) (h : RowI w a l), Calls Try.prog 33 #[.slice a n c] w (GivesJ k v w)

def ICorrectWord : Prop := ∀ (a : Option Addr) (n c : Nat) (l : List Int) (k : Nat) (hk : k ≤ 11) (v : List Int × Int × Int) (hv : corW l = v) (hk2 : v.1.length = k) (hn : l.length = n) (hl : n ≤ 3000000) (hc : n ≤ c) (w : World) (h : RowI w a l), Calls Try.prog 32 #[.slice a n c] w (GivesV k v w)

end Go.Proofs.Ytpddinflkkcodaa

namespace Go.Proofs.Ytpddinflkkcodaa
open Go.RowKit Go.PlainAid

set_option linter.unusedVariables false

def ISymbolsOfWord : Prop := ∀ (x : Int) (k : Nat) (hk : k ≤ 8) (v : List Int) (hv : symW x = v) (hk2 : v.length = k) (w : World), Calls Try.prog 10 #[.int .i64 x] w (GivesJ k v w)

def IWordOfSymbols : Prop := ∀ (a : Option Addr) (n c : Nat) (l : List Int) (v : Int) (b : Bool) (hv : wordS l = (v, b)) (hn : l.length = n) (hl : n ≤ 3000000) (hc : n ≤ c) (w : World) (h : RowI w a l), Calls Try.prog 11 #[.slice a n c] w (Gives (.tuple #[.int .i64 v, .bool b]) w)

def IDecodeLine : Prop := ∀ (a : Option Addr) (n c : Nat) (l : List Int) (x cd at' : Int) (hv : decW l = (x, cd, at')) (hn : l.length = n) (hl : n ≤ 3000000) (hc : n ≤ c) (w : World) (h : RowI w a l), Calls Try.prog 19 #[.slice a n c] w (Gives (.tuple #[.int .i64 x, .int .i64 cd, .int .i64 at']) w)

def IFormatLine : Prop := ∀ (a : Option Addr) (n c : Nat) (l : List Int) (v : ByteArray) (hv : lineT l = v) (hn : l.length = n) (hl : n ≤ 3000000) (hc : n ≤ c) (w : World) (h : RowI w a l), Calls Try.prog 21 #[.slice a n c] w (Gives (.string v) w)

end Go.Proofs.Ytpddinflkkcodaa

namespace Go.Proofs.Ytpddinflkkcodaa
open Go.RowKit Go.PlainAid

set_option linter.unusedVariables false

theorem symOk_no {l : List Int} {m : Int} {k : Nat} (hk : k < l.length) (h : ¬ El (l.getD k 0)) : decide (SymOk l m) = false :=
  decide_eq_false fun q => h (el_getD q.1 hk)

theorem symOk_all {l : List Int} {m : Int} (h : Els l) : decide (SymOk l m) = ((l.length : Int) == m) := by
  by_cases e : (l.length : Int) = m
  · rw [decide_eq_true (show SymOk l m from ⟨h, e⟩)]; simpa using e
  · rw [decide_eq_false (fun q : SymOk l m => e q.2)]; simpa using e

set_option maxHeartbeats 1000000 in
set_option maxRecDepth 100000 in
theorem specSymbolsOk_is {a : Option Addr} {c n : Nat} {l : List Int} {m : Int} (hn : l.length = n) {w : World} (h : RowI w a l) (v : Bool) (hv : decide (SymOk l m) = v) (hl : (n : Int) ≤ 9223372036854775807) :
    Calls Try.prog 29 #[.slice a n c, .int .i64 m] w (Says (.bool v) w) := by
  have HN := Lib.hid hn
  have HA := Lib.hid h
  have HV := Lib.hid hv
  clear hn h hv
  go_enter Try.func29, Try.ntmps29
  go_wp2_with fail
  go_loopw [5] (fun i wr => ∃ k : Nat, k ≤ n ∧ i = .int .i64 k ∧ Els (l.take k) ∧ wr = w) (fun i _ => n - (intOf i).toNat)
  case atStart => exact ⟨0, Nat.zero_le _, rfl, (fun v hv => by cases hv), rfl⟩
  case round =>
    obtain ⟨k, hk, rfl, hels, rfl⟩ := hrel
    have HE := Lib.hid hels
    clear hels
    by_cases hlt : k < n
    · obtain ⟨ga, oa, rfl, hca⟩ := HA.out.at (k := k) (by rw [HN.out]; exact hlt)
      obtain ⟨x, hx⟩ : ∃ x, l.getD k 0 = x := ⟨_, rfl⟩
      rw [hx] at hca
      by_cases he : El x
      · have HS := Lib.hid (els_take (by rw [HN.out]; exact hlt) HE.out (hx ▸ he))
        have KA := Lib.hid (decide_eq_true he)
        clear hx he
        go_wp2_with fail
        refine (specIs_is x true KA.out _).mono ?_
        rintro e w2 ⟨rfl, rfl⟩
        go_wp2_with fail
        go_roundw
        case rel => exact ⟨k + 1, by omega, by go_num, HS.out, by trivial⟩
        case measure => simp [intOf]; omega
      · have HF : Hid (false = v) := by show _ = _; rw [← HV.out]; exact (symOk_no (by rw [HN.out]; exact hlt) (hx ▸ he)).symm
        have KA := Lib.hid (decide_eq_false he)
        clear hx he
        go_wp2_with fail
        refine (specIs_is x false KA.out _).mono ?_
        rintro e w2 ⟨rfl, rfl⟩
        go_wp2_with fail
        go_ret
        exact ⟨ret_b HF.out, rfl⟩
    · obtain rfl : k = n := by omega
      have HF : Hid (((k : Int) == m) = v) := by
        show _ = _
        rw [← HV.out, symOk_all (by have := HE.out; rwa [List.take_of_length_le (by rw [HN.out]; omega)] at this), HN.out]
      go_wp2_with fail
      go_ret
      exact ⟨ret_b HF.out, rfl⟩

/-- The three sums behind so many symbols, and so many of the next one. -/
def sumsV (u : List Nat) (k t : Nat) : List Int := [((syn 0 (u.take (if 0 < t then k + 1 else k)) : Nat) : Int), ((syn 1 (u.take (if 1 < t then k + 1 else k)) : Nat) : Int), ((syn 2 (u.take (if 2 < t then k + 1 else k)) : Nat) : Int)]

theorem sumsV_length (u : List Nat) (k t : Nat) : (sumsV u k t).length = 3 := rfl

theorem sumsV_next (u : List Nat) (k : Nat) : sumsV u k 3 = sumsV u (k + 1) 0 := by simp [sumsV]

theorem sumsV_getD (u : List Nat) (k : Nat) {t : Nat} (ht : t < 3) : (sumsV u k t).getD t 0 = ((syn t (u.take k) : Nat) : Int) := by
  match t, ht with
  | 0, _ => simp [sumsV]
  | 1, _ => simp [sumsV]
  | 2, _ => simp [sumsV]

theorem sumsV_set (u : List Nat) (k : Nat) {t : Nat} (ht : t < 3) (hk : k < u.length) :
    (sumsV u k t).set t (((syn t (u.take k)) ^^^ gm u[k] (cw t k) : Nat) : Int) = sumsV u k (t + 1) := by
  rw [← syn_take t hk]
  match t, ht with
  | 0, _ => simp [sumsV]
  | 1, _ => simp [sumsV]
  | 2, _ => simp [sumsV]

set_option maxHeartbeats 2000000 in
set_option maxRecDepth 100000 in
theorem specSyndromes_is {a : Option Addr} {c n : Nat} {l : List Int} (hn : l.length = n) {w : World} (h : RowI w a l) (v : List Int) (hv : syns l = v) (hl : (n : Int) ≤ 9223372036854775807) :
    Calls Try.prog 42 #[.slice a n c] w (GivesI v w) := by
  have HN := Lib.hid hn
  have HA := Lib.hid h
  have HV := Lib.hid hv
  clear hn h hv
  by_cases hok : SymOk l 11
  case neg =>
    have KA := Lib.hid (decide_eq_false hok)
    obtain rfl : v = [] := by rw [← HV.out]; exact if_neg hok
    clear hok
    go_enter Try.func42, Try.ntmps42
    go_wp2_with fail
    refine (specSymbolsOk_is HN.out HA.out false KA.out hl).mono ?_
    rintro e w2 ⟨rfl, rfl⟩
    go_wp2_with fail
    go_ret
    exact givesI_empty rfl (Nat.le_refl _) (by show (w.heap.push _)[w.heap.size]? = _; simp) ((Below.refl _ _).alloc (Nat.le_refl _) _)
  have KA := Lib.hid (decide_eq_true hok)
  obtain rfl : n = 11 := by have := hok.2; have := HN.out; omega
  obtain ⟨u, hu⟩ : ∃ u, nats l = u := ⟨_, rfl⟩
  have HU := Lib.hid hu
  have HLT : Hid (Lt16 u) := by show Lt16 u; rw [← hu]; exact nats_lt hok.1
  have hul : u.length = 11 := by rw [← hu, nats_length]; exact HN.out
  have HUL := Lib.hid hul
  have HE := Lib.hid hok.1
  have HF : Hid (sumsV u 11 0 = v) := by
    show _ = _
    rw [← HV.out, syns, if_pos hok, hu, sumsV]
    simp [List.take_of_length_le (Nat.le_of_eq hul)]
  obtain ⟨i0, hi, hz0, hz1, hz2⟩ := info_parts infoI
  clear hok hu hul
  go_enter Try.func42, Try.ntmps42
  go_wp2_with fail
  refine (specSymbolsOk_is HN.out HA.out true KA.out hl).mono ?_
  rintro e w2 ⟨rfl, rfl⟩
  go_wp2_with (at_make; refine wpList_make_full _ rfl _ _ 25 rfl w.heap.size 3 i0 (.int .i64 0) 1 Try.underlying25 hi hz0 hz1 _ _ _ _ 3 rfl rfl rfl rfl (by rw [hz2]; omega) (by unfold maxLen; omega) (Nat.le_refl _) ?_)
  intro w1 hown hgr
  have hb1 : Below w.heap.size w w1 := (Below.refl _ _).grown hgr (Nat.le_refl _) (fun k hk => by cases hk)
  have HO1 : Hid (OwnI w.heap.size (.slice (some ⟨w.heap.size, 0, none⟩) 3 3) (sumsV u 0 0) w1) := by
    show OwnI _ _ _ _
    unfold OwnI
    rw [made_one] at hown
    exact hown
  have HB1 := Lib.hid hb1
  clear hgr hown hb1
  go_wp2_with fail
  go_loopw [4] (fun i wr => ∃ k : Nat, k ≤ 11 ∧ i = .int .i64 k ∧ OwnI w.heap.size (.slice (some ⟨w.heap.size, 0, none⟩) 3 3) (sumsV u k 0) wr ∧ Below w.heap.size w wr) (fun i _ => 11 - (intOf i).toNat)
  case atStart => exact ⟨0, Nat.zero_le _, rfl, HO1.out, HB1.out⟩
  case round =>
    obtain ⟨k, hk, rfl, hown, hbr⟩ := hrel
    have HO := Lib.hid hown
    have HBR := Lib.hid hbr
    clear hown hbr
    by_cases hlt : k < 11
    · have HP : Hid (gfPow 2 (k : Int) = ((gp 2 k : Nat) : Int)) := gfPow_nat (a := 2) (by omega) (by omega)
      obtain ⟨y, hy⟩ : ∃ y, gp 2 k = y := ⟨_, rfl⟩
      rw [hy] at HP
      have HY := Lib.hid hy
      clear hy
      go_wp2_with fail
      refine (specGfPow_is 2 (k : Int) _ HP.out _).mono ?_
      rintro e w3 ⟨rfl, rfl⟩
      go_wp2_with fail
      go_loopw [5, 7] (fun f j wi => ∃ t : Nat, t ≤ 3 ∧ j = .int .i64 t ∧ f = .int .i64 ((gp y t : Nat) : Int) ∧ OwnI w.heap.size (.slice (some ⟨w.heap.size, 0, none⟩) 3 3) (sumsV u k t) wi ∧ Below w.heap.size w wi) (fun _ j _ => 3 - (intOf j).toNat)
      case atStart => exact ⟨0, Nat.zero_le _, rfl, rfl, HO.out, HBR.out⟩
      case round =>
        obtain ⟨t, ht, rfl, rfl, hown, hbi⟩ := hrel
        have HI := Lib.hid hown
        have HBI := Lib.hid hbi
        clear hown hbi
        by_cases hlt3 : t < 3
        · obtain ⟨g, hg, hc, hf, hB, hgs⟩ := HI.out.at (k := t) (by rw [sumsV_length]; exact hlt3)
          obtain rfl : w.heap.size = g := by simpa using hg
          obtain ⟨ga, oa, rfl, hca⟩ := (HA.out.below HBI.out).at (k := k) (by rw [HN.out]; exact hlt)
          have hku : k < u.length := by rw [HUL.out]; exact hlt
          obtain ⟨X, hX⟩ : ∃ X, u[k] = X := ⟨_, rfl⟩
          obtain ⟨S, hS⟩ : ∃ S, syn t (u.take k) = S := ⟨_, rfl⟩
          obtain ⟨F, hF⟩ : ∃ F, gp y t = F := ⟨_, rfl⟩
          have hy : y < 16 := by rw [← HY.out]; exact gp_lt (by omega) k
          have hXl : X < 16 := by rw [← hX]; exact HLT.out _ (List.getElem_mem hku)
          have hSl : S < 16 := by rw [← hS]; exact syn_lt t fun v hv => HLT.out v (List.mem_of_mem_take hv)
          have hFl : F < 16 := by rw [← hF]; exact gp_lt hy t
          have hcX : wr.cell? ⟨ga, oa + k, none⟩ = some (.int .i64 (X : Int)) := by
            rw [hca, nats_getD HE.out (by rw [HN.out]; exact hlt), HU.out, List.getD_eq_getElem?_getD, List.getElem?_eq_getElem hku, hX]
            rfl
          have hcS : wr.cell? ⟨w.heap.size, t, none⟩ = some (.int .i64 (S : Int)) := by
            rw [hc, ← hS, ← sumsV_getD u k hlt3, List.getD_eq_getElem?_getD, List.getElem?_eq_getElem (by rw [sumsV_length]; exact hlt3)]
            rfl
          have HM : Hid (gfMul (X : Int) (F : Int) = ((gm X F : Nat) : Int)) := gfMul_nat hXl hFl
          have HM2 : Hid (gfMul (F : Int) (y : Int) = ((gm F y : Nat) : Int)) := gfMul_nat hFl hy
          have hG : gm X F < 16 := gm_lt hXl hFl
          obtain ⟨G, hGe⟩ : ∃ G, gm X F = G := ⟨_, rfl⟩
          rw [hGe] at HM hG
          have hxor : bits .xor .i64 (S : Int) (G : Int) = ((S ^^^ G : Nat) : Int) := i64_xor_nat S G (by omega) (by omega)
          have HSET : Hid ((sumsV u k t).set t ((S ^^^ G : Nat) : Int) = sumsV u k (t + 1)) := by
            show _ = _
            rw [← sumsV_set u k hlt3 hku, hX, hS, ← hGe, ← hF]
            show _ = List.set _ _ ((S ^^^ gm X (gp (gp 2 k) t) : Nat) : Int)
            rw [HY.out]
          have HNX : Hid (gp y (t + 1) = gm F y) := by show gm (gp y t) y = _; rw [hF]
          rw [hF]
          have z0 := fun q : Later wr => q.cell hcX
          have z1 := fun q : Later wr => q.cell hcS
          clear hc hf hca hg hX hS hF hGe hXl hSl hFl hG hB
          go_wp2_with fail
          refine wp_region_later_tail 14 (by kernel_rfl) (by kernel_rfl) ?_
          simp only [List.take_succ_cons, List.take_zero, List.drop_succ_cons, List.drop_zero]
          repeat (go_big_quiet_step (first | (go_at_call 45; exact Gives.later_same _ (specGfMul_is _ _ _ HM.out _))))
          refine wpQuiet_nil ?_
          rintro w3 ⟨zz, hz⟩
          have hb3 : Below wr.heap.size wr w3 := hz ▸ zz.ok
          have O3 := Lib.hid (HI.out.below hb3)
          have HB3 : Hid (Below w.heap.size w w3) := HBI.out.trans (hb3.mono (by omega))
          obtain ⟨g', hg', hc3, hf3, _, _⟩ := O3.out.at (k := t) (by rw [sumsV_length]; exact hlt3)
          obtain rfl : w.heap.size = g' := by simpa using hg'
          obtain ⟨old, hco⟩ : ∃ u, w3.cell? ⟨w.heap.size, t, none⟩ = some u := ⟨_, hc3⟩
          clear z0 z1 hz zz hb3 hcX hcS hc3 hg'
          go_wp2_with fail
          refine (specGfMul_is (F : Int) (y : Int) _ HM2.out _).mono ?_
          rintro e w4 ⟨rfl, rfl⟩
          have R2 : Hid (OwnI w.heap.size (.slice (some ⟨w.heap.size, 0, none⟩) 3 3) (sumsV u k (t + 1)) (w3.setCell ⟨w.heap.size, t, none⟩ (.int .i64 ((S ^^^ G : Nat) : Int)))) := by
            show OwnI _ _ _ _
            rw [← HSET.out]
            exact O3.out.stored (sumsV_length u k t) t _
          have HB4 : Hid (Below w.heap.size w (w3.setCell ⟨w.heap.size, t, none⟩ (.int .i64 ((S ^^^ G : Nat) : Int)))) := HB3.out.setCell (Nat.le_refl _) _
          go_wp2_with fail
          go_roundw
          case rel => exact ⟨t + 1, by omega, by go_num, by rw [HNX.out], R2.out, HB4.out⟩
          case measure => simp [intOf]; omega
        · obtain rfl : t = 3 := by omega
          go_wp2_with fail
          go_roundw
          case rel => exact ⟨k + 1, by omega, by go_num, by rw [← sumsV_next]; exact HI.out, HBI.out⟩
          case measure => simp [intOf]; omega
    · obtain rfl : k = 11 := by omega
      go_wp2_with fail
      go_ret
      exact ⟨some ⟨w.heap.size, 0, none⟩, 3, by rw [← HF.out]; rfl, by rw [← HF.out]; exact HO.out, HBR.out⟩

end Go.Proofs.Ytpddinflkkcodaa

namespace Go.Proofs.Ytpddinflkkcodaa
open Go.RowKit Go.PlainAid

set_option linter.unusedVariables false

set_option maxHeartbeats 1000000 in
set_option maxRecDepth 100000 in
theorem specZero_is {a : Option Addr} {c : Nat} {x y z : Int} {w : World} (h : RowI w a [x, y, z]) (v : Bool) (hv : decide (x = 0 ∧ y = 0 ∧ z = 0) = v) :
    Calls Try.prog 43 #[.slice a 3 c] w (Says (.bool v) w) := by
  rcases h with h0 | ⟨g, o, rfl, hc⟩
  · cases h0
  have c0 : w.cell? ⟨g, o + 0, none⟩ = some (.int .i64 x) := hc 0 (by simp)
  have c0' : w.cell? ⟨g, o, none⟩ = some (.int .i64 x) := hc 0 (by simp)
  have c1 : w.cell? ⟨g, o + 1, none⟩ = some (.int .i64 y) := hc 1 (by simp)
  have c2 : w.cell? ⟨g, o + 2, none⟩ = some (.int .i64 z) := hc 2 (by simp)
  clear hc
  have HV := Lib.hid hv
  clear hv
  by_cases hx : x = 0
  · by_cases hy : y = 0
    · have tz : ((z == 0) : Bool) = v := by rw [← HV.out]; subst hx hy; simp; rfl
      subst hx hy
      clear HV
      go_enter Try.func43, Try.ntmps43
      go_wp2_with fail
      go_ret
      exact ⟨rfl, rfl⟩
    · have ty : ((y == 0) : Bool) = false := by simpa using hy
      obtain rfl : v = false := by rw [← HV.out]; exact decide_eq_false fun q => hy q.2.1
      subst hx
      clear HV hy
      go_enter Try.func43, Try.ntmps43
      go_wp2_with fail
      go_ret
      exact ⟨rfl, rfl⟩
  · have tx : ((x == 0) : Bool) = false := by simpa using hx
    obtain rfl : v = false := by rw [← HV.out]; exact decide_eq_false fun q => hx q.1
    clear HV hx
    go_enter Try.func43, Try.ntmps43
    go_wp2_with fail
    go_ret
    exact ⟨rfl, rfl⟩

theorem zero_syns {u : List Nat} : decide (((syn 0 u : Nat) : Int) = 0 ∧ ((syn 1 u : Nat) : Int) = 0 ∧ ((syn 2 u : Nat) : Int) = 0) = decide (Zero3 u) := by
  apply decide_eq_decide.mpr
  unfold Zero3
  omega

theorem row_drop {w : World} {g o : Nat} {l : List Int} (k : Nat) (h : RowI w (some ⟨g, o, none⟩) l) : RowI w (some ⟨g, o + k, none⟩) (l.drop k) := by
  rcases h with h | ⟨g', o', he, hc⟩
  · left; rw [h]; simp
  · cases he
    refine .inr ⟨g, o + k, rfl, fun i hi => ?_⟩
    rw [List.length_drop] at hi
    have := hc (k + i) (by omega)
    rw [Nat.add_assoc, this]
    simp [List.getD_eq_getElem?_getD]

set_option maxHeartbeats 1000000 in
set_option maxRecDepth 100000 in
theorem specDataOf_is {a : Option Addr} {c n : Nat} {l : List Int} (hn : l.length = n) (hcap : n ≤ c) {w : World} (h : RowI w a l) (v : List Int) (hv : dataI l = v) (hl : (n : Int) ≤ 9223372036854775807) :
    Calls Try.prog 31 #[.slice a n c] w (GivesI v w) := by
  have HN := Lib.hid hn
  have HA := Lib.hid h
  have HV := Lib.hid hv
  clear hn h hv
  by_cases hok : SymOk l 11
  case neg =>
    have KA := Lib.hid (decide_eq_false hok)
    obtain rfl : v = [] := by rw [← HV.out]; exact if_neg hok
    clear hok
    go_enter Try.func31, Try.ntmps31
    go_wp2_with fail
    refine (specSymbolsOk_is HN.out HA.out false KA.out hl).mono ?_
    rintro e w2 ⟨rfl, rfl⟩
    go_wp2_with fail
    go_ret
    exact givesI_empty rfl (Nat.le_refl _) (by show (w.heap.push _)[w.heap.size]? = _; simp) ((Below.refl _ _).alloc (Nat.le_refl _) _)
  have KA := Lib.hid (decide_eq_true hok)
  obtain rfl : n = 11 := by have := hok.2; have := HN.out; omega
  obtain rfl : v = l.drop 3 := by rw [← HV.out]; exact if_pos hok
  obtain ⟨g, o, rfl, _⟩ := HA.out.at (k := 0) (by rw [HN.out]; omega)
  have HD := Lib.hid (row_drop 3 HA.out)
  have HDL : Hid ((l.drop 3).length = 8) := by show _ = _; rw [List.length_drop, HN.out]
  clear hok HV
  go_enter Try.func31, Try.ntmps31
  go_wp2_with fail
  refine (specSymbolsOk_is HN.out HA.out true KA.out hl).mono ?_
  rintro e w2 ⟨rfl, rfl⟩
  have hb3 : Below w.heap.size w (w.alloc (.cells #[] 3)) := (Below.refl _ _).alloc (Nat.le_refl _) _
  have own3 : OwnI w.heap.size (.slice (some ⟨w.heap.size, 0, none⟩) 0 0) [] (w.alloc (.cells #[] 3)) := World.ownsRow_made (base := w.heap.size) (e := 3) (size := 1) w #[] 0 (Nat.le_refl _) (by decide) rfl
  have HR3 := Lib.hid (HD.out.below hb3)
  have hS3 : w.heap.size ≤ (w.alloc (.cells #[] 3)).heap.size := by simp
  go_wp2_with (at_builtin; refine append_int rfl _ _ rfl w.heap.size _ 0 [] rfl own3 rfl (some ⟨g, o + 3, none⟩) 8 (c - 3) (l.drop 3) rfl HDL.out (fun h => by cases h) HR3.out (by omega) hS3 ?_)
  intro v' w4 hown4 hgrow _
  (try rw [List.nil_append] at hown4)
  have HB4 : Hid (Below w.heap.size w w4) := hb3.grown hgrow hS3 (fun j hj => by have := Option.some.inj hj; have h2 : w.heap.size = j := this; omega)
  obtain ⟨aa, cc, hv⟩ := hown4.shape
  subst hv
  have HO4 := Lib.hid hown4
  clear hown4 hgrow own3 hb3
  go_wp2_with fail
  go_ret
  exact ⟨aa, cc, rfl, HO4.out, HB4.out⟩

end Go.Proofs.Ytpddinflkkcodaa

namespace Go.Proofs.Ytpddinflkkcodaa
open Go.RowKit Go.PlainAid

set_option linter.unusedVariables false

/-- A row of the call's own and two numbers. -/
def GivesW (t : List Int × Int × Int) (w : World) (e : Ending) (w' : World) : Prop :=
  ∃ a n cap, t.1.length = n ∧ e = .returned (.tuple #[.slice a n cap, .int .i64 t.2.1, .int .i64 t.2.2]) ∧ OwnI w.heap.size (.slice a n cap) t.1 w' ∧ Below w.heap.size w w'

set_option maxHeartbeats 4000000 in
set_option maxRecDepth 100000 in
theorem specCorrectWord_is {a : Option Addr} {c n : Nat} {l : List Int} (hn : l.length = n) {w : World} (h : RowI w a l) (v : List Int × Int × Int) (hv : corW l = v) (hl : (n : Int) ≤ 9223372036854775807) :
    Calls Try.prog 30 #[.slice a n c] w (GivesW v w) := by
  have HN := Lib.hid hn
  have HA := Lib.hid h
  have HV := Lib.hid hv
  clear hn h hv
  by_cases hok : SymOk l 11
  case neg =>
    have KA := Lib.hid (decide_eq_false hok)
    obtain rfl : v = ([], 2, -1) := by rw [← HV.out]; exact corW_no hok
    clear hok
    go_enter Try.func30, Try.ntmps30
    go_wp2_with fail
    refine (specSymbolsOk_is HN.out HA.out false KA.out hl).mono ?_
    rintro e w2 ⟨rfl, rfl⟩
    go_wp2_with fail
    (try simp only [Exit.inBlock, Exit.then])
    refine bodyPost_ret (v := .tuple #[.slice (some ⟨w.heap.size, 0, none⟩) 0 0, .int .i64 2, .int .i64 (-1)]) (by simp [results, Try.results30, go_sem]) rfl ?_
    exact ⟨some ⟨w.heap.size, 0, none⟩, 0, 0, rfl, rfl, World.ownsRow_made (base := w.heap.size) (e := 3) (size := 1) w #[] 0 (Nat.le_refl _) (by decide) rfl, (Below.refl _ _).alloc (Nat.le_refl _) _⟩
  have KA := Lib.hid (decide_eq_true hok)
  obtain rfl : n = 11 := by have := hok.2; have := HN.out; omega
  obtain ⟨g, o, rfl, _⟩ := HA.out.at (k := 0) (by rw [HN.out]; omega)
  obtain ⟨u, hu⟩ : ∃ u, nats l = u := ⟨_, rfl⟩
  have HLT : Hid (Lt16 u) := by show Lt16 u; rw [← hu]; exact nats_lt hok.1
  have HSY : Hid (syns l = [((syn 0 u : Nat) : Int), ((syn 1 u : Nat) : Int), ((syn 2 u : Nat) : Int)]) := by show _ = _; rw [← hu]; exact if_pos hok
  have HCZ : Hid (Zero3 u → v = (l, 0, -1)) := by show Zero3 u → _; rw [← hu, ← HV.out]; exact corW_zero hok
  have HCN : Hid (¬ Zero3 u → (∀ m < 11, ¬ Hit (syn 0 u) (syn 1 u) (syn 2 u) m) → v = (l, 2, -1)) := by show ¬ _ → _; rw [← hu, ← HV.out]; exact corW_none hok
  have HCH : Hid (¬ Zero3 u → ∀ k, k < 11 → Hit (syn 0 u) (syn 1 u) (syn 2 u) k → (∀ m < k, ¬ Hit (syn 0 u) (syn 1 u) (syn 2 u) m) → v = (l.set k (bits .xor .i64 (l.getD k 0) ((syn 0 u : Nat) : Int)), 1, (k : Int))) := by
    show ¬ _ → _
    rw [← hu, ← HV.out]
    exact fun hz k hk hh hm => corW_hit hok hz hk hh hm
  clear hok hu HV
  obtain ⟨S0, hS0⟩ : ∃ S, syn 0 u = S := ⟨_, rfl⟩
  obtain ⟨S1, hS1⟩ : ∃ S, syn 1 u = S := ⟨_, rfl⟩
  obtain ⟨S2, hS2⟩ : ∃ S, syn 2 u = S := ⟨_, rfl⟩
  have L0 : Hid (S0 < 16) := by show S0 < 16; rw [← hS0]; exact syn_lt 0 HLT.out
  have L1 : Hid (S1 < 16) := by show S1 < 16; rw [← hS1]; exact syn_lt 1 HLT.out
  have HZD : Hid (decide ((S0 : Int) = 0 ∧ (S1 : Int) = 0 ∧ (S2 : Int) = 0) = decide (Zero3 u)) := by show _ = _; rw [← hS0, ← hS1, ← hS2]; exact zero_syns
  rw [hS0, hS1, hS2] at HSY HCN HCH
  clear hS0 hS1 hS2
  obtain ⟨zb, hzb⟩ : ∃ z, decide (Zero3 u) = z := ⟨_, rfl⟩
  have HZB := Lib.hid hzb
  clear hzb
  go_enter Try.func30, Try.ntmps30
  go_wp2_with fail
  refine (specSymbolsOk_is HN.out HA.out true KA.out hl).mono ?_
  rintro e w2 ⟨rfl, rfl⟩
  have hb3 : Below w.heap.size w (w.alloc (.cells #[] 3)) := (Below.refl _ _).alloc (Nat.le_refl _) _
  have own3 : OwnI w.heap.size (.slice (some ⟨w.heap.size, 0, none⟩) 0 0) [] (w.alloc (.cells #[] 3)) := World.ownsRow_made (base := w.heap.size) (e := 3) (size := 1) w #[] 0 (Nat.le_refl _) (by decide) rfl
  have HR3 := Lib.hid (HA.out.below hb3)
  have hS3 : w.heap.size ≤ (w.alloc (.cells #[] 3)).heap.size := by simp
  go_wp2_with (at_builtin; refine append_int rfl _ _ rfl w.heap.size _ 0 [] rfl own3 rfl (some ⟨g, o, none⟩) 11 c l rfl HN.out (fun h => by cases h) HR3.out (by omega) hS3 ?_)
  intro v' w4 hown4 hgrow _
  (try rw [List.nil_append] at hown4)
  have HB4 : Hid (Below w.heap.size w w4) := hb3.grown hgrow hS3 (fun j hj => by have := Option.some.inj hj; have h2 : w.heap.size = j := this; omega)
  obtain ⟨aa, cc, hv⟩ := hown4.shape
  subst hv
  rw [HN.out] at hown4
  obtain ⟨P, rfl, _, _, hBP, hPS⟩ := hown4.at (k := 0) (by rw [HN.out]; omega)
  have HO4 := Lib.hid hown4
  have HPS := Lib.hid hPS
  have HBP := Lib.hid hBP
  rw [HN.out]
  clear hown4 hgrow own3 hb3 hBP hPS HR3 hS3
  go_wp2_with fail
  refine (specSyndromes_is HN.out (HA.out.below HB4.out) _ HSY.out hl).mono ?_
  rintro e w5 ⟨b, cap, rfl, hown, hb⟩
  obtain ⟨R, rfl, _, _, hBR, hRS⟩ := hown.at (k := 0) (by simp)
  have HB5 : Hid (Below w.heap.size w w5) := HB4.out.trans (hb.mono HB4.out.size)
  have HO5 : Hid (OwnI w.heap.size (.slice (some ⟨P, 0, none⟩) 11 cc) l w5) := HO4.out.below hb
  have HR5 := Lib.hid hown.row
  have HPR : Hid (P < R) := Nat.lt_of_lt_of_le HPS.out hBR
  have HRL : Hid (w.heap.size ≤ R) := Nat.le_of_lt (Nat.lt_of_le_of_lt HBP.out HPR.out)
  have HRS := Lib.hid hRS
  clear hown hb HB4 HO4 hBR hRS HPS
  go_wp2_with fail
  refine (specZero_is HR5.out zb (HZD.out.trans HZB.out)).mono ?_
  rintro e w6 ⟨rfl, rfl⟩
  cases zb with
  | true =>
    obtain rfl := HCZ.out (of_decide_eq_true HZB.out)
    go_wp2_with fail
    (try simp only [Exit.inBlock, Exit.then])
    refine bodyPost_ret (v := .tuple #[.slice (some ⟨P, 0, none⟩) 11 cc, .int .i64 0, .int .i64 (-1)]) (by simp [results, Try.results30, go_sem]) rfl ?_
    exact ⟨_, 11, cc, HN.out, rfl, HO5.out, HB5.out⟩
  | false =>
  have HNZ : Hid (¬ Zero3 u) := of_decide_eq_false HZB.out
  go_wp2_with fail
  go_loopw [7] (fun i wr => ∃ k : Nat, k ≤ 11 ∧ i = .int .i64 k ∧ (∀ m < k, ¬ Hit S0 S1 S2 m) ∧ OwnI w.heap.size (.slice (some ⟨P, 0, none⟩) 11 cc) l wr ∧ RowI wr (some ⟨R, 0, none⟩) [(S0 : Int), (S1 : Int), (S2 : Int)] ∧ Below w.heap.size w wr ∧ R < wr.heap.size) (fun i _ => 11 - (intOf i).toNat)
  case atStart => exact ⟨0, Nat.zero_le _, rfl, fun m hm => absurd hm (Nat.not_lt_zero _), HO5.out, HR5.out, HB5.out, HRS.out⟩
  case round =>
    obtain ⟨k, hk, rfl, hno, hown, hrow, hbr, hrs⟩ := hrel
    have HNO := Lib.hid hno
    have HO := Lib.hid hown
    have HR := Lib.hid hrow
    have HBR := Lib.hid hbr
    have HRW := Lib.hid hrs
    clear hno hown hrow hbr hrs
    by_cases hlt : k < 11
    case neg =>
      obtain rfl : k = 11 := by omega
      obtain rfl := HCN.out HNZ.out HNO.out
      go_wp2_with fail
      (try simp only [Exit.inBlock, Exit.then])
      refine bodyPost_ret (v := .tuple #[.slice (some ⟨P, 0, none⟩) 11 cc, .int .i64 2, .int .i64 (-1)]) (by simp [results, Try.results30, go_sem]) rfl ?_
      exact ⟨_, 11, cc, HN.out, rfl, HO.out, HBR.out⟩
    have HP : Hid (gfPow 2 (k : Int) = ((gp 2 k : Nat) : Int)) := gfPow_nat (a := 2) (by omega) (by omega)
    have hyl : gp 2 k < 16 := gp_lt (by omega) k
    have hm0 : gfMul (S0 : Int) ((gp 2 k : Nat) : Int) = ((gm S0 (gp 2 k) : Nat) : Int) := gfMul_nat L0.out hyl
    have hm1 : gfMul (S1 : Int) ((gp 2 k : Nat) : Int) = ((gm S1 (gp 2 k) : Nat) : Int) := gfMul_nat L1.out hyl
    have HH : Hid (Hit S0 S1 S2 k ↔ (S0 : Int) ≠ 0 ∧ ((gm S0 (gp 2 k) : Nat) : Int) = (S1 : Int) ∧ ((gm S1 (gp 2 k) : Nat) : Int) = (S2 : Int)) := by
      show Hit _ _ _ _ ↔ _
      unfold Hit
      omega
    obtain ⟨g2, o2, he2, d0⟩ := HR.out.at (k := 0) (by simp)
    cases he2
    obtain ⟨_, _, he2, d1⟩ := HR.out.at (k := 1) (by simp)
    cases he2
    obtain ⟨_, _, he2, d2⟩ := HR.out.at (k := 2) (by simp)
    cases he2
    have e0 : wr.cell? ⟨R, 0, none⟩ = some (.int .i64 (S0 : Int)) := d0
    have e1 : wr.cell? ⟨R, 1, none⟩ = some (.int .i64 (S1 : Int)) := d1
    have e2 : wr.cell? ⟨R, 2, none⟩ = some (.int .i64 (S2 : Int)) := d2
    clear d0 d1 d2
    obtain ⟨y, hy⟩ : ∃ y, ((gp 2 k : Nat) : Int) = y := ⟨_, rfl⟩
    obtain ⟨A, hA⟩ : ∃ y, ((gm S0 (gp 2 k) : Nat) : Int) = y := ⟨_, rfl⟩
    obtain ⟨B, hB⟩ : ∃ y, ((gm S1 (gp 2 k) : Nat) : Int) = y := ⟨_, rfl⟩
    rw [hA, hB] at HH
    rw [hy] at HP
    rw [hy, hA] at hm0
    rw [hy, hB] at hm1
    obtain ⟨x0, h0⟩ : ∃ y, (S0 : Int) = y := ⟨_, rfl⟩
    obtain ⟨x1, h1⟩ : ∃ y, (S1 : Int) = y := ⟨_, rfl⟩
    obtain ⟨x2, h2⟩ : ∃ y, (S2 : Int) = y := ⟨_, rfl⟩
    rw [h0] at e0 hm0
    rw [h1] at e1 hm1
    rw [h2] at e2
    rw [h0, h1, h2] at HH
    have HCK : Hid (Hit S0 S1 S2 k → v = (l.set k (bits .xor .i64 (l.getD k 0) x0), 1, (k : Int))) := by
      show _ → _
      rw [← h0]
      exact fun q => HCH.out HNZ.out k hlt q HNO.out
    have HNX : Hid (¬ Hit S0 S1 S2 k → ∀ m < k + 1, ¬ Hit S0 S1 S2 m) := by
      intro q m hm
      by_cases e : m = k
      · exact e ▸ q
      · exact HNO.out m (by omega)
    have HM0 := Lib.hid hm0
    have HM1 := Lib.hid hm1
    have z0 := fun q : Later wr => q.cell e0
    have z1 := fun q : Later wr => q.cell e1
    have z2 := fun q : Later wr => q.cell e2
    clear hy hA hB h0 h1 h2 hm0 hm1 hyl
    go_wp2_with fail
    refine (specGfPow_is 2 (k : Int) _ HP.out _).mono ?_
    rintro e w7 ⟨rfl, rfl⟩
    clear e0 e1 e2
    by_cases q0 : x0 = 0
    · have t0 : (x0 == 0) = true := by simpa using q0
      have t0' : (x0 != 0) = false := by simpa using q0
      have HF : Hid (∀ m < k + 1, ¬ Hit S0 S1 S2 m) := HNX.out (fun q => (HH.out.mp q).1 q0)
      go_wp2_with fail
      refine wp_region_later (by kernel_rfl) (by kernel_rfl) ?_
      repeat (go_big_quiet_step (first | (go_at_call_of 45 x0; exact Gives.later_same _ (specGfMul_is _ _ _ HM0.out _)) | (go_at_call_of 45 x1; exact Gives.later_same _ (specGfMul_is _ _ _ HM1.out _))))
      refine wpQuiet_nil ?_
      rintro w3 ⟨zz, hz⟩
      have hb3 : Below wr.heap.size wr w3 := hz ▸ zz.ok
      have O3 := Lib.hid (HO.out.below hb3)
      have R3 := Lib.hid (HR.out.below hb3)
      have HB3 : Hid (Below w.heap.size w w3) := HBR.out.trans (hb3.mono HBR.out.size)
      have HS3 : Hid (R < w3.heap.size) := Nat.lt_of_lt_of_le HRW.out hb3.size
      clear z0 z1 z2 hz zz hb3
      go_wp2_with fail
      go_roundw
      case rel => exact ⟨k + 1, by omega, by go_num, HF.out, O3.out, R3.out, HB3.out, HS3.out⟩
      case measure => simp [intOf]; omega
    by_cases q1 : A = x1
    case neg =>
      have t0 : (x0 == 0) = false := by simpa using q0
      have t0' : (x0 != 0) = true := by simpa using q0
      have t1 : (A == x1) = false := by simpa using q1
      have HF : Hid (∀ m < k + 1, ¬ Hit S0 S1 S2 m) := HNX.out (fun q => q1 (HH.out.mp q).2.1)
      go_wp2_with fail
      refine wp_region_later (by kernel_rfl) (by kernel_rfl) ?_
      repeat (go_big_quiet_step (first | (go_at_call_of 45 x0; exact Gives.later_same _ (specGfMul_is _ _ _ HM0.out _)) | (go_at_call_of 45 x1; exact Gives.later_same _ (specGfMul_is _ _ _ HM1.out _))))
      refine wpQuiet_nil ?_
      rintro w3 ⟨zz, hz⟩
      have hb3 : Below wr.heap.size wr w3 := hz ▸ zz.ok
      have O3 := Lib.hid (HO.out.below hb3)
      have R3 := Lib.hid (HR.out.below hb3)
      have HB3 : Hid (Below w.heap.size w w3) := HBR.out.trans (hb3.mono HBR.out.size)
      have HS3 : Hid (R < w3.heap.size) := Nat.lt_of_lt_of_le HRW.out hb3.size
      clear z0 z1 z2 hz zz hb3
      go_wp2_with fail
      go_roundw
      case rel => exact ⟨k + 1, by omega, by go_num, HF.out, O3.out, R3.out, HB3.out, HS3.out⟩
      case measure => simp [intOf]; omega
    by_cases q2 : B = x2
    case neg =>
      have t0 : (x0 == 0) = false := by simpa using q0
      have t0' : (x0 != 0) = true := by simpa using q0
      have t1 : (A == x1) = true := by simpa using q1
      have t2 : (B == x2) = false := by simpa using q2
      have HF : Hid (∀ m < k + 1, ¬ Hit S0 S1 S2 m) := HNX.out (fun q => q2 (HH.out.mp q).2.2)
      go_wp2_with fail
      refine wp_region_later (by kernel_rfl) (by kernel_rfl) ?_
      repeat (go_big_quiet_step (first | (go_at_call_of 45 x0; exact Gives.later_same _ (specGfMul_is _ _ _ HM0.out _)) | (go_at_call_of 45 x1; exact Gives.later_same _ (specGfMul_is _ _ _ HM1.out _))))
      refine wpQuiet_nil ?_
      rintro w3 ⟨zz, hz⟩
      have hb3 : Below wr.heap.size wr w3 := hz ▸ zz.ok
      have O3 := Lib.hid (HO.out.below hb3)
      have R3 := Lib.hid (HR.out.below hb3)
      have HB3 : Hid (Below w.heap.size w w3) := HBR.out.trans (hb3.mono HBR.out.size)
      have HS3 : Hid (R < w3.heap.size) := Nat.lt_of_lt_of_le HRW.out hb3.size
      clear z0 z1 z2 hz zz hb3
      go_wp2_with fail
      go_roundw
      case rel => exact ⟨k + 1, by omega, by go_num, HF.out, O3.out, R3.out, HB3.out, HS3.out⟩
      case measure => simp [intOf]; omega
    have t0 : (x0 == 0) = false := by simpa using q0
    have t0' : (x0 != 0) = true := by simpa using q0
    have t1 : (A == x1) = true := by simpa using q1
    have t2 : (B == x2) = true := by simpa using q2
    have hve := HCK.out (HH.out.mpr ⟨q0, q1, q2⟩)
    go_wp2_with fail
    refine wp_region_later (by kernel_rfl) (by kernel_rfl) ?_
    repeat (go_big_quiet_step (first | (go_at_call_of 45 x0; exact Gives.later_same _ (specGfMul_is _ _ _ HM0.out _)) | (go_at_call_of 45 x1; exact Gives.later_same _ (specGfMul_is _ _ _ HM1.out _))))
    refine wpQuiet_nil ?_
    rintro w3 ⟨zz, hz⟩
    have hb3 : Below wr.heap.size wr w3 := hz ▸ zz.ok
    have O3 := Lib.hid (HO.out.below hb3)
    have R3 := Lib.hid (HR.out.below hb3)
    have HB3 : Hid (Below w.heap.size w w3) := HBR.out.trans (hb3.mono HBR.out.size)
    have HS3 : Hid (R < w3.heap.size) := Nat.lt_of_lt_of_le HRW.out hb3.size
    obtain ⟨g', hg', hc3, hf3, _, _⟩ := O3.out.at (k := k) (by rw [HN.out]; exact hlt)
    obtain rfl : P = g' := by simpa using hg'
    have hc4 : w3.cell? ⟨P, k, none⟩ = some (.int .i64 (l.getD k 0)) := by
      rw [hc3, List.getD_eq_getElem?_getD, List.getElem?_eq_getElem (by rw [HN.out]; exact hlt)]
      rfl
    have e0 := z0 zz
    rw [← hz] at e0
    clear z0 z1 z2 hz zz hb3 hc3
    obtain ⟨X, hX⟩ : ∃ X, l.getD k 0 = X := ⟨_, rfl⟩
    rw [hX] at hc4 hve
    have z0 := fun q : Later w3 => q.cell e0
    have z1 := fun q : Later w3 => q.cell hc4
    obtain ⟨Y, hY⟩ : ∃ Y, bits .xor .i64 X x0 = Y := ⟨_, rfl⟩
    rw [hY] at hve
    have HVE := Lib.hid hve
    clear hX hve
    go_wp2_with fail
    refine wp_region_later_tail 11 (by kernel_rfl) (by kernel_rfl) ?_
    simp only [List.take_succ_cons, List.take_zero, List.drop_succ_cons, List.drop_zero]
    repeat (go_big_quiet_step (fail))
    refine wpQuiet_nil ?_
    rintro w8 ⟨zz, hz⟩
    have hb8 : Below w3.heap.size w3 w8 := hz ▸ zz.ok
    have O8 := Lib.hid (O3.out.below hb8)
    have HB8 : Hid (Below w.heap.size w w8) := HB3.out.trans (hb8.mono HB3.out.size)
    obtain ⟨g', hg', hc8, hf8, _, _⟩ := O8.out.at (k := k) (by rw [HN.out]; exact hlt)
    obtain rfl : P = g' := by simpa using hg'
    obtain ⟨old, hco⟩ : ∃ u, w8.cell? ⟨P, k, none⟩ = some u := ⟨_, hc8⟩
    clear z0 z1 hz zz hb8 hc4 hc8 e0
    go_wp2_with fail
    (try simp only [Exit.inBlock, Exit.then])
    refine bodyPost_ret (v := .tuple #[.slice (some ⟨P, 0, none⟩) 11 cc, .int .i64 1, .int .i64 (k : Int)]) (by simp [results, Try.results30, go_sem]) rfl ?_
    obtain rfl := HVE.out
    exact ⟨_, 11, cc, by rw [List.length_set]; exact HN.out, rfl, O8.out.stored HN.out k _, HB8.out.setCell HBP.out _⟩

end Go.Proofs.Ytpddinflkkcodaa

namespace Go.Proofs.Ytpddinflkkcodaa
open Go.RowKit Go.PlainAid

set_option linter.unusedVariables false

theorem OwnI.cap_le {B n c : Nat} {a : Option Addr} {l : List Int} {w : World} (h : OwnI B (.slice a n c) l w) (hn : l.length = n) : n ≤ c := by
  rcases h.2 with ⟨hv, h0⟩ | ⟨g, cap, cur, hv, hB, hh, h1, _, _, _⟩
  · cases hv; omega
  · cases hv; simp_all

end Go.Proofs.Ytpddinflkkcodaa

namespace Go.Proofs.Ytpddinflkkcodaa
open Go.RowKit Go.PlainAid

set_option linter.unusedVariables false

theorem and15_is {n k : Nat} (hn : n < 2 ^ 62) : bits .and .i64 ((n : Int) / 2 ^ k) 15 = ((n / 2 ^ k % 16 : Nat) : Int) := by
  have e : (n : Int) / 2 ^ k = ((n / 2 ^ k : Nat) : Int) := by simp
  have h : n / 2 ^ k < 2 ^ 63 := Nat.lt_of_le_of_lt (Nat.div_le_self _ _) (by omega)
  rw [e, show (15 : Int) = ((15 : Nat) : Int) from rfl, i64_and_nat _ 15 h (by decide)]
  congr 1
  exact Nat.and_two_pow_sub_one_eq_mod (n / 2 ^ k) 4

set_option maxHeartbeats 4000000 in
set_option maxRecDepth 100000 in
theorem specSymbolsOfWord_is (x : Int) (v : List Int) (hv : symW x = v) (w : World) :
    Calls Try.prog 12 #[.int .i64 x] w (GivesI v w) := by
  by_cases hx : Wd x
  case neg =>
    have KA := Lib.hid (decide_eq_false hx)
    obtain rfl : v = [] := by rw [← hv]; exact symW_no hx
    clear hx hv
    go_enter Try.func12, Try.ntmps12
    go_wp2_with fail
    go_loopw [3, 4] (fun u i wr => u = .slice (some ⟨w.heap.size, 0, none⟩) 0 0 ∧ i = .int .i64 0 ∧ wr = w.alloc (.cells #[] 3)) (fun _ _ _ => 0)
    case atStart => exact ⟨rfl, rfl, by trivial⟩
    case round =>
      obtain ⟨rfl, rfl, rfl⟩ := hrel
      go_wp2_with fail
      refine (specIsWord_is x false KA.out _).mono ?_
      rintro e w2 ⟨rfl, rfl⟩
      go_wp2_with fail
      go_ret
      exact ⟨_, _, rfl, World.ownsRow_made (base := w.heap.size) (e := 3) (size := 1) w #[] 0 (Nat.le_refl _) (by decide) rfl, (Below.refl _ _).alloc (Nat.le_refl _) _⟩
  have KA := Lib.hid (decide_eq_true hx)
  obtain ⟨n, rfl⟩ := Int.eq_ofNat_of_zero_le hx.1
  obtain rfl : v = ints (grp n 8) := by rw [← hv]; exact symW_nat hx
  have hn : n < 4294967296 := by have := hx.2; omega
  obtain ⟨i0, hi, hz0, hz1, hz2⟩ := info_parts infoI
  clear hx hv
  go_enter Try.func12, Try.ntmps12
  go_wp2_with fail
  go_loopw [3, 4] (fun u i wr => ∃ k : Nat, k ≤ 8 ∧ i = .int .i64 k ∧ OwnI w.heap.size u (ints (grp n k)) wr ∧ Below w.heap.size w wr) (fun _ i _ => 9 - (intOf i).toNat)
  case atStart => exact ⟨0, by omega, rfl, World.ownsRow_made (base := w.heap.size) (e := 3) (size := 1) w #[] 0 (Nat.le_refl _) (by decide) rfl, (Below.refl _ _).alloc (Nat.le_refl _) _⟩
  case round =>
    obtain ⟨k, hk, rfl, hown, hbr⟩ := hrel
    have hsr := hbr.size
    by_cases hlt : k < 8
    case neg =>
      obtain rfl : k = 8 := by omega
      (try rw [show ((8 : Nat) : Int) = 8 from rfl])
      obtain ⟨a, c, hv⟩ := hown.shape
      subst hv
      have HO := Lib.hid hown
      have HB := Lib.hid hbr
      clear hown hbr
      go_wp2_with fail
      go_ret
      exact ⟨a, c, rfl, HO.out, HB.out⟩
    have hI : decide ((k : Int) < 8) = true := decide_eq_true (by omega)
    have hI' : (k : Int) < 8 := by omega
    have wk : IntKind.i64.wrap ((k : Int) + 1) = (k : Int) + 1 := IntWalk.i64_in _ (by omega)
    have w4 : IntKind.i64.wrap (4 * (k : Int)) = 4 * (k : Int) := IntWalk.i64_in _ (by omega)
    have HL := Lib.hid (show (ints (grp n k)).length = k by rw [ints_length, grp_length])
    go_wp2_with fail
    refine (specIsWord_is (n : Int) true KA.out _).mono ?_
    rintro e w2 ⟨rfl, rfl⟩
    obtain ⟨g, hg⟩ : ∃ g, n / 16 ^ k % 16 = g := ⟨_, rfl⟩
    have e1 : bits .and .i64 ((n : Int) / 2 ^ (4 * k)) 15 = (g : Int) := by
      rw [← hg, and15_is (by omega), Nat.pow_mul]
    have HG : Hid (ints (grp n k) ++ [(g : Int)] = ints (grp n (k + 1))) := by show _ = _; rw [← hg]; exact grp_step n k
    generalize ints (grp n k) = l at hown HL HG
    clear hg
    go_wp2_with (at_builtin; refine wpList_append_own _ rfl _ _ 25 rfl w.heap.size 3 i0 (.int .i64 0) 1 8 Try.underlying25 hi hz0 hz1 hz2 rfl (by decide) _ _ _ rfl (World.ownsRow.alloc hown _) ⟨wr.heap.size, 0, none⟩ 1 1 [.int .i64 (g : Int)] rfl rfl (cell_one_new _ _ _) (by intro u hu; simp at hu; subst hu; rfl) (by rw [HL.out]; unfold maxLen; omega) (by rw [HL.out]; omega) (by rw [World.size_alloc]; omega) ?_)
    intro v' w3 hown3 hgrow _
    have R : Hid (OwnI w.heap.size v' (ints (grp n (k + 1))) w3) := by show OwnI _ _ _ _; rw [← HG.out]; exact ownI_more hown3
    have HB3 : Hid (Below w.heap.size w w3) := (hbr.alloc hsr _).grown hgrow (by simp; omega) (fun j hj => (World.ownsRow.lt hown j hj).1)
    clear hown3 hgrow hown hbr
    go_wp2_with fail
    go_roundw
    case rel => exact ⟨k + 1, by omega, by go_num, R.out, HB3.out⟩
    case measure => simp [intOf]; omega

set_option maxHeartbeats 4000000 in
set_option maxRecDepth 100000 in
theorem specWordOfSymbols_is {a : Option Addr} {c n : Nat} {l : List Int} (hn : l.length = n) {w : World} (h : RowI w a l) (v : Int) (b : Bool) (hv : wordS l = (v, b)) (hl : (n : Int) ≤ 9223372036854775807) :
    Calls Try.prog 16 #[.slice a n c] w (Gives (.tuple #[.int .i64 v, .bool b]) w) := by
  have HN := Lib.hid hn
  have HA := Lib.hid h
  clear hn h
  by_cases hok : SymOk l 8
  case neg =>
    have KA := Lib.hid (decide_eq_false hok)
    rw [wordS_no hok] at hv
    cases hv
    clear hok
    go_enter Try.func16, Try.ntmps16
    go_wp2_with fail
    refine (specSymbolsOk_is HN.out HA.out false KA.out hl).mono ?_
    rintro e w2 ⟨rfl, rfl⟩
    go_wp2_with fail
    go_ret2
    exact ⟨rfl, Below.refl _ _⟩
  have KA := Lib.hid (decide_eq_true hok)
  obtain rfl : n = 8 := by have := hok.2; have := HN.out; omega
  rw [wordS_yes hok] at hv
  have hLT := nats_lt hok.1
  have HEL : Hid (∀ k, k < 8 → l.getD k 0 = (((nats l).getD k 0 : Nat) : Int)) := fun k hk => nats_getD hok.1 (by have := HN.out; omega)
  have hul : (nats l).length = 8 := by rw [nats_length]; exact HN.out
  generalize nats l = u at hLT HEL hul hv
  have HV : Hid (((wordN (u.take 8) : Nat) : Int) = v ∧ true = b) := by
    have h1 := congrArg Prod.fst hv
    have h2 := congrArg Prod.snd hv
    refine ⟨?_, h2⟩
    rw [List.take_of_length_le (by omega)]
    exact h1
  have HLT := Lib.hid hLT
  have HUL := Lib.hid hul
  clear hok hv hLT hul
  go_enter Try.func16, Try.ntmps16
  go_wp2_with fail
  refine (specSymbolsOk_is HN.out HA.out true KA.out hl).mono ?_
  rintro e w2 ⟨rfl, rfl⟩
  go_wp2_with fail
  go_loopw [4, 5] (fun x i wr => ∃ k : Nat, k ≤ 8 ∧ i = .int .i64 k ∧ x = .int .i64 ((wordN (u.take k) : Nat) : Int) ∧ wr = w) (fun _ i _ => 9 - (intOf i).toNat)
  case atStart => exact ⟨0, by omega, rfl, rfl, by trivial⟩
  case round =>
    obtain ⟨k, hk, rfl, rfl, rfl⟩ := hrel
    by_cases hlt : k < 8
    case neg =>
      obtain rfl : k = 8 := by omega
      (try rw [show ((8 : Nat) : Int) = 8 from rfl])
      obtain ⟨hv1, hv2⟩ := HV.out
      rw [hv1]
      subst hv2
      clear hv1
      go_wp2_with fail
      go_ret2
      exact ⟨rfl, Below.refl _ _⟩
    have hI : decide ((k : Int) < 8) = true := decide_eq_true (by omega)
    have hI' : (k : Int) < 8 := by omega
    have wk : IntKind.i64.wrap ((k : Int) + 1) = (k : Int) + 1 := IntWalk.i64_in _ (by omega)
    have w4 : IntKind.i64.wrap (4 * (k : Int)) = 4 * (k : Int) := IntWalk.i64_in _ (by omega)
    obtain ⟨g, o, rfl, ca⟩ := HA.out.at (k := k) (by rw [HN.out]; exact hlt)
    rw [HEL.out k hlt] at ca
    have hb : u.getD k 0 < 16 := getDn_lt HLT.out k
    have HW : Hid (wordN (u.take k) ||| (u.getD k 0 <<< (4 * k)) = wordN (u.take (k + 1))) := word_step HLT.out (by rw [HUL.out]; exact hlt)
    have hx := word_lt HLT.out hk
    have hs := shl_lt hb hlt
    generalize u.getD k 0 = y at ca hb HW hs
    have hsy : (y : Int) * 2 ^ (4 * k) = ((y <<< (4 * k) : Nat) : Int) := by rw [Nat.shiftLeft_eq]; simp
    generalize y <<< (4 * k) = sh at HW hs hsy
    have e1 : wrap64 ((y : Int) * 2 ^ (4 * k)) = (sh : Int) := by rw [hsy, ← IntWalk.i64_left]; exact IntWalk.i64_in _ (by omega)
    generalize wordN (u.take k) = X at HW hx
    have e2 : bits .or .i64 (X : Int) (sh : Int) = ((X ||| sh : Nat) : Int) := i64_or_nat _ _ (by omega) (by omega)
    generalize X ||| sh = Y at HW e2
    clear hsy
    go_wp2_with fail
    go_roundw
    case rel => exact ⟨k + 1, by omega, by go_num, by rw [← HW.out], by trivial⟩
    case measure => simp [intOf]; omega

theorem specDecodeLine_is {a : Option Addr} {c n : Nat} {l : List Int} (hn : l.length = n) {w : World} (h : RowI w a l) (x cd at' : Int) (hv : decW l = (x, cd, at')) (hl : (n : Int) ≤ 9223372036854775807) :
    Calls Try.prog 18 #[.slice a n c] w (Gives (.tuple #[.int .i64 x, .int .i64 cd, .int .i64 at']) w) := by
  have HN := Lib.hid hn
  have HA := Lib.hid h
  obtain ⟨⟨r, c1, a1⟩, hc⟩ : ∃ v, corW l = v := ⟨_, rfl⟩
  have HC := Lib.hid hc
  have hr11 : r.length ≤ 11 := by have := corW_le l; rw [hc] at this; exact this
  unfold decW at hv
  rw [hc] at hv
  have HV : Hid ((if c1 = 2 then ((0 : Int), (2 : Int), a1) else ((wordS (dataI r)).1, c1, a1)) = (x, cd, at')) := hv
  clear hn h hc hv
  go_enter Try.func18, Try.ntmps18
  go_wp2_with fail
  refine (specCorrectWord_is HN.out HA.out (r, c1, a1) HC.out hl).mono ?_
  rintro e w2 ⟨b1, m, d1, hm, rfl, own2, hb2⟩
  have HM : Hid (r.length = m) := hm
  have HR : Hid (RowI w2 b1 r) := own2.row
  have HD : Hid (m ≤ d1) := own2.cap_le hm
  have HB2 := Lib.hid hb2
  have hm11 : m ≤ 11 := by rw [← hm]; exact hr11
  clear hm own2 hb2 hr11
  by_cases h2 : c1 = 2
  case pos =>
    have HV2 : Hid (0 = x ∧ 2 = cd ∧ a1 = at') := by
      have := HV.out
      rw [if_pos h2] at this
      cases this
      exact ⟨rfl, rfl, rfl⟩
    subst h2
    go_wp2_with fail
    (try simp only [Exit.inBlock, Exit.then])
    refine bodyPost_ret (v := .tuple #[.int .i64 0, .int .i64 2, .int .i64 a1]) (by simp [results, Try.results18, go_sem]) rfl ?_
    obtain ⟨e1, e2, e3⟩ := HV2.out
    subst e1; subst e2; subst e3
    exact ⟨rfl, HB2.out⟩
  have t2 : (c1 == 2) = false := beq_eq_false_iff_ne.2 h2
  obtain ⟨dd, hdd⟩ : ∃ d, dataI r = d := ⟨_, rfl⟩
  have hd11 : dd.length ≤ 11 := by rw [← hdd]; exact dataI_le r
  have HDD := Lib.hid hdd
  obtain ⟨⟨xv, bv⟩, hxv⟩ : ∃ v, wordS dd = v := ⟨_, rfl⟩
  have HXV := Lib.hid hxv
  obtain ⟨k, hk⟩ : ∃ k, dd.length = k := ⟨_, rfl⟩
  have HK := Lib.hid hk
  have HV2 : Hid (xv = x ∧ c1 = cd ∧ a1 = at') := by
    have := HV.out
    rw [if_neg h2, hdd, hxv] at this
    cases this
    exact ⟨rfl, rfl, rfl⟩
  rw [hk] at hd11
  clear h2 hdd hxv hk HV
  go_wp2_with fail
  refine (specDataOf_is HM.out HD.out HR.out dd HDD.out (by omega)).mono ?_
  rintro e w3 ⟨b2, d2, rfl, own3, hb3⟩
  rw [HK.out] at own3
  (try rw [HK.out])
  have HR3 : Hid (RowI w3 b2 dd) := own3.row
  have HB3 : Hid (Below w.heap.size w w3) := HB2.out.trans (hb3.mono HB2.out.size)
  clear own3 hb3
  go_wp2_with fail
  refine (specWordOfSymbols_is HK.out HR3.out xv bv HXV.out (by omega)).mono ?_
  rintro e w4 ⟨rfl, hb4⟩
  have HB4 : Hid (Below w.heap.size w w4) := HB3.out.trans (hb4.mono HB3.out.size)
  clear hb4
  go_wp2_with fail
  (try simp only [Exit.inBlock, Exit.then])
  refine bodyPost_ret (v := .tuple #[.int .i64 xv, .int .i64 c1, .int .i64 a1]) (by simp [results, Try.results18, go_sem]) rfl ?_
  obtain ⟨e1, e2, e3⟩ := HV2.out
  subst e1; subst e2; subst e3
  exact ⟨rfl, HB4.out⟩

set_option maxHeartbeats 4000000 in
set_option maxRecDepth 100000 in
theorem specFormatLine_is {a : Option Addr} {c n : Nat} {l : List Int} (hn : l.length = n) {w : World} (h : RowI w a l) (v : ByteArray) (hv : lineT l = v) (hl : (n : Int) ≤ 9223372036854775807) :
    Calls Try.prog 20 #[.slice a n c] w (Gives (.string v) w) := by
  have HN := Lib.hid hn
  have HA := Lib.hid h
  clear hn h
  by_cases hok : SymOk l 11
  case neg =>
    have KA := Lib.hid (decide_eq_false hok)
    obtain rfl : v = ⟨#[]⟩ := by rw [← hv]; exact if_neg hok
    clear hok hv
    go_enter Try.func20, Try.ntmps20
    go_wp2_with fail
    refine (specSymbolsOk_is HN.out HA.out false KA.out hl).mono ?_
    rintro e w2 ⟨rfl, rfl⟩
    go_wp2_with fail
    go_ret
    exact ⟨rfl, Below.refl _ _⟩
  have KA := Lib.hid (decide_eq_true hok)
  obtain rfl : n = 11 := by have := hok.2; have := HN.out; omega
  obtain rfl : v = ⟨((nats l).map fig).toArray⟩ := by rw [← hv]; exact if_pos hok
  have hLT := nats_lt hok.1
  have HEL : Hid (∀ k, k < 11 → l.getD k 0 = (((nats l).getD k 0 : Nat) : Int)) := fun k hk => nats_getD hok.1 (by have := HN.out; omega)
  have hul : (nats l).length = 11 := by rw [nats_length]; exact HN.out
  generalize nats l = u at hLT HEL hul
  have HLT := Lib.hid hLT
  have HUL := Lib.hid hul
  obtain ⟨i0, hi, hz0, hz1, hz2⟩ := info_parts infoB
  clear hok hv hLT hul
  go_enter Try.func20, Try.ntmps20
  go_wp2_with fail
  refine (specSymbolsOk_is HN.out HA.out true KA.out hl).mono ?_
  rintro e w2 ⟨rfl, rfl⟩
  go_wp2_with fail
  go_loopw [3, 4] (fun b i wr => ∃ k : Nat, k ≤ 11 ∧ i = .int .i64 k ∧ OwnB w.heap.size b ((u.take k).map fig) wr ∧ Below w.heap.size w wr) (fun _ i _ => 12 - (intOf i).toNat)
  case atStart => exact ⟨0, by omega, rfl, World.ownsRow_made w #[] 0 (Nat.le_refl _) (by decide) rfl, (Below.refl _ _).alloc (Nat.le_refl _) _⟩
  case round =>
    obtain ⟨k, hk, rfl, hown, hbr⟩ := hrel
    have hsr := hbr.size
    by_cases hlt : k < 11
    case neg =>
      obtain rfl : k = 11 := by omega
      (try rw [show ((11 : Nat) : Int) = 11 from rfl])
      rw [List.take_of_length_le (by rw [HUL.out]; exact Nat.le_refl _)] at hown
      have hcv := hown.conv
      have HB := Lib.hid hbr
      clear hown hbr
      go_wp2_with fail
      go_ret
      exact ⟨rfl, HB.out⟩
    have hI : decide ((k : Int) < 11) = true := decide_eq_true (by omega)
    have hI' : (k : Int) < 11 := by omega
    have wk : IntKind.i64.wrap ((k : Int) + 1) = (k : Int) + 1 := IntWalk.i64_in _ (by omega)
    obtain ⟨g, o, rfl, ca⟩ := (HA.out.below hbr).at (k := k) (by rw [HN.out]; exact hlt)
    rw [HEL.out k hlt] at ca
    have hb : u.getD k 0 < 16 := getDn_lt HLT.out k
    have HL := Lib.hid (show ((u.take k).map fig).length = k by rw [List.length_map, List.length_take, HUL.out]; omega)
    have HST : Hid ((u.take k).map fig ++ [fig (u.getD k 0)] = (u.take (k + 1)).map fig) := by
      show _ = _
      have hk2 : k < u.length := by rw [HUL.out]; exact hlt
      rw [List.take_succ_eq_append_getElem hk2, List.map_append, List.getD_eq_getElem?_getD, List.getElem?_eq_getElem hk2]
      rfl
    generalize u.getD k 0 = y at ca hb HST
    generalize (u.take k).map fig = lb at hown HL HST
    obtain ⟨f, hf⟩ : ∃ f, fig y = f := ⟨_, rfl⟩
    have HF : Hid (fig ((y : Int)).toNat = f) := by show _ = _; rw [Int.toNat_natCast]; exact hf
    rw [hf] at HST
    clear hf
    go_wp2_with fail
    refine (figure_any (y : Int) (by omega) (by omega) _).mono ?_
    rintro e w3 ⟨rfl, rfl⟩
    rw [HF.out]
    go_wp2_with (at_builtin; refine wpList_append_own _ rfl _ _ 22 rfl w.heap.size 5 i0 (.int .u8 0) 1 1 Try.underlying22 hi hz0 hz1 hz2 rfl (by decide) _ _ _ rfl (World.ownsRow.alloc hown _) ⟨wr.heap.size, 0, none⟩ 1 1 [.int .u8 (f.toNat : Int)] rfl rfl (cell_one_new _ _ _) (by intro u hu; simp at hu; subst hu; rfl) (by rw [HL.out]; unfold maxLen; omega) (by rw [HL.out]; omega) (by rw [World.size_alloc]; omega) ?_)
    intro v' w3 hown3 hgrow _
    have R : Hid (OwnB w.heap.size v' ((u.take (k + 1)).map fig) w3) := by show OwnB _ _ _ _; rw [← HST.out]; exact own_more hown3 rfl
    have HB3 : Hid (Below w.heap.size w w3) := (hbr.alloc hsr _).grown hgrow (by simp; omega) (fun j hj => (World.ownsRow.lt hown j hj).1)
    clear hown3 hgrow hown hbr
    go_wp2_with fail
    go_roundw
    case rel => exact ⟨k + 1, by omega, by go_num, R.out, HB3.out⟩
    case measure => simp [intOf]; omega

end Go.Proofs.Ytpddinflkkcodaa

namespace Go.Proofs.Ytpddinflkkcodaa
open Go.RowKit Go.PlainAid

set_option linter.unusedVariables false

set_option maxHeartbeats 8000000 in
set_option maxRecDepth 100000 in
theorem exWordOfSymbols_of (IMPL : Hid IWordOfSymbols) (a0 : Option Addr) (len cap : Nat) (zs : List Int) (w : World) (hr : IsRow .i64 w a0 len cap zs) :
    Calls Try.prog 5 #[.slice a0 len cap] w fun e w' => e = .returned (.bool true) ∧ Below w.heap.size w w' := by
  obtain ⟨hr0, hz⟩ := isRow_row hr
  have hcap : len ≤ cap := by
    rcases hr with ⟨_, h1, h2, _⟩ | ⟨x, _, h1, _⟩
    · omega
    · exact h1
  generalize zs.take len = l at hr0 hz
  clear hr
  obtain ⟨⟨v, b⟩, hv⟩ : ∃ v, wordS l = v := ⟨_, rfl⟩
  have HV := Lib.hid hv
  have tvv : (v != v) = false := by simp
  have tbb : (b != b) = false := by simp
  clear hv
  by_cases hbig : (1048576 : Int) < (len : Int)
  · go_enter Try.func5, Try.ntmps5
    go_wp2
    go_ret
    exact ⟨rfl, Below.refl _ _⟩
  have HZ := Lib.hid hz
  have HR0 := Lib.hid hr0
  have HL : Hid (len ≤ 3000000) := by show len ≤ 3000000; omega
  have HL2 : Hid ((len : Int) ≤ 9223372036854775807) := by show _ ≤ _; omega
  clear hz hr0
  go_enter Try.func5, Try.ntmps5
  have HB0 : Hid (Below w.heap.size w w) := Below.refl _ _
  have SZ0 : Hid (w.heap.size ≤ w.heap.size) := HB0.out.size
  go_wp2_with fail
  refine (toIntS_is a0 len cap l HZ.out (by omega) _ (HR0.out.below HB0.out)).mono ?_
  rintro e w1 ⟨Aa, Ac, rfl, own1, hb1⟩
  rw [HZ.out] at own1
  try rw [HZ.out]
  have A1 : Hid (OwnJ w.heap.size (.slice Aa len Ac) l w1) := own1.toJ HZ.out
  have hcA : Hid (len ≤ Ac) := own1.cap_le HZ.out
  have HB1 : Hid (Below w.heap.size w w1) := HB0.out.trans (hb1.mono HB0.out.size)
  clear own1 hb1 HB0
  go_wp2_with fail
  refine (specWordOfSymbols_is HZ.out A1.out.row v b HV.out HL2.out).mono ?_
  rintro e w2 ⟨rfl, hb2⟩
  have HB2 : Hid (Below w.heap.size w w2) := HB1.out.trans (hb2.mono HB1.out.size)
  have A2 : Hid (OwnJ w.heap.size (.slice Aa len Ac) l w2) := A1.out.below hb2
  clear A1
  clear hb2 HB1
  clear A2
  have SZ2 : Hid (w.heap.size ≤ w2.heap.size) := HB2.out.size
  go_wp2_with fail
  refine (toIntS_is a0 len cap l HZ.out (by omega) _ (HR0.out.below HB2.out)).mono ?_
  rintro e w3 ⟨Xa, Xc, rfl, own3, hb3⟩
  rw [HZ.out] at own3
  try rw [HZ.out]
  have X3 : Hid (OwnJ w2.heap.size (.slice Xa len Xc) l w3) := own3.toJ HZ.out
  have hcX : Hid (len ≤ Xc) := own3.cap_le HZ.out
  have HB3 : Hid (Below w.heap.size w w3) := HB2.out.trans (hb3.mono HB2.out.size)
  clear own3 hb3 HB2
  go_wp2_with fail
  refine (IMPL.out Xa len Xc l v b HV.out HZ.out HL.out hcX.out _ X3.out.row).mono ?_
  rintro e w4 ⟨rfl, hb4⟩
  have HB4 : Hid (Below w.heap.size w w4) := HB3.out.trans (hb4.mono HB3.out.size)
  have X4 : Hid (OwnJ w2.heap.size (.slice Xa len Xc) l w4) := X3.out.below hb4
  clear X3
  clear hb4 HB3
  have SZ4 : Hid (w.heap.size ≤ w4.heap.size) := HB4.out.size
  go_wp2_with fail
  refine (toIntS_is a0 len cap l HZ.out (by omega) _ (HR0.out.below HB4.out)).mono ?_
  rintro e w5 ⟨Ta, Tc, rfl, own5, hb5⟩
  rw [HZ.out] at own5
  try rw [HZ.out]
  have T5 : Hid (OwnJ w4.heap.size (.slice Ta len Tc) l w5) := own5.toJ HZ.out
  have hcT : Hid (len ≤ Tc) := own5.cap_le HZ.out
  have PXT : Hid (Apt Xa Ta) := apt_new X4.out T5.out
  have HB5 : Hid (Below w.heap.size w w5) := HB4.out.trans (hb5.mono HB4.out.size)
  have X5 : Hid (OwnJ w2.heap.size (.slice Xa len Xc) l w5) := X4.out.below hb5
  clear X4
  clear own5 hb5 HB4
  go_wp2_with fail
  refine (eqIntS_row HZ.out X5.out.row T5.out.row HL2.out).mono ?_
  rintro e w6 ⟨rfl, hb6⟩
  have HB6 : Hid (Below w.heap.size w w6) := HB5.out.trans (hb6.mono HB5.out.size)
  have X6 : Hid (OwnJ w2.heap.size (.slice Xa len Xc) l w6) := X5.out.below hb6
  have T6 : Hid (OwnJ w4.heap.size (.slice Ta len Tc) l w6) := T5.out.below hb6
  clear X5 T5
  clear hb6 HB5
  go_wp2_with fail
  go_ret
  exact ⟨rfl, HB6.out⟩

set_option maxHeartbeats 8000000 in
set_option maxRecDepth 100000 in
theorem exDecodeLine_of (IMPL : Hid IDecodeLine) (a0 : Option Addr) (len cap : Nat) (zs : List Int) (w : World) (hr : IsRow .i64 w a0 len cap zs) :
    Calls Try.prog 6 #[.slice a0 len cap] w fun e w' => e = .returned (.bool true) ∧ Below w.heap.size w w' := by
  obtain ⟨hr0, hz⟩ := isRow_row hr
  have hcap : len ≤ cap := by
    rcases hr with ⟨_, h1, h2, _⟩ | ⟨x, _, h1, _⟩
    · omega
    · exact h1
  generalize zs.take len = l at hr0 hz
  clear hr
  obtain ⟨⟨v, c1, a1⟩, hv⟩ : ∃ v, decW l = v := ⟨_, rfl⟩
  have tcc : (c1 != c1) = false := by simp
  have taa : (a1 != a1) = false := by simp
  have HV := Lib.hid hv
  have tvv : (v != v) = false := by simp
  clear hv
  by_cases hbig : (1048576 : Int) < (len : Int)
  · go_enter Try.func6, Try.ntmps6
    go_wp2
    go_ret
    exact ⟨rfl, Below.refl _ _⟩
  have HZ := Lib.hid hz
  have HR0 := Lib.hid hr0
  have HL : Hid (len ≤ 3000000) := by show len ≤ 3000000; omega
  have HL2 : Hid ((len : Int) ≤ 9223372036854775807) := by show _ ≤ _; omega
  clear hz hr0
  go_enter Try.func6, Try.ntmps6
  have HB0 : Hid (Below w.heap.size w w) := Below.refl _ _
  have SZ0 : Hid (w.heap.size ≤ w.heap.size) := HB0.out.size
  go_wp2_with fail
  refine (toIntS_is a0 len cap l HZ.out (by omega) _ (HR0.out.below HB0.out)).mono ?_
  rintro e w1 ⟨Aa, Ac, rfl, own1, hb1⟩
  rw [HZ.out] at own1
  try rw [HZ.out]
  have A1 : Hid (OwnJ w.heap.size (.slice Aa len Ac) l w1) := own1.toJ HZ.out
  have hcA : Hid (len ≤ Ac) := own1.cap_le HZ.out
  have HB1 : Hid (Below w.heap.size w w1) := HB0.out.trans (hb1.mono HB0.out.size)
  clear own1 hb1 HB0
  go_wp2_with fail
  refine (specDecodeLine_is HZ.out A1.out.row v c1 a1 HV.out HL2.out).mono ?_
  rintro e w2 ⟨rfl, hb2⟩
  have HB2 : Hid (Below w.heap.size w w2) := HB1.out.trans (hb2.mono HB1.out.size)
  have A2 : Hid (OwnJ w.heap.size (.slice Aa len Ac) l w2) := A1.out.below hb2
  clear A1
  clear hb2 HB1
  clear A2
  have SZ2 : Hid (w.heap.size ≤ w2.heap.size) := HB2.out.size
  go_wp2_with fail
  refine (toIntS_is a0 len cap l HZ.out (by omega) _ (HR0.out.below HB2.out)).mono ?_
  rintro e w3 ⟨Xa, Xc, rfl, own3, hb3⟩
  rw [HZ.out] at own3
  try rw [HZ.out]
  have X3 : Hid (OwnJ w2.heap.size (.slice Xa len Xc) l w3) := own3.toJ HZ.out
  have hcX : Hid (len ≤ Xc) := own3.cap_le HZ.out
  have HB3 : Hid (Below w.heap.size w w3) := HB2.out.trans (hb3.mono HB2.out.size)
  clear own3 hb3 HB2
  go_wp2_with fail
  refine (IMPL.out Xa len Xc l v c1 a1 HV.out HZ.out HL.out hcX.out _ X3.out.row).mono ?_
  rintro e w4 ⟨rfl, hb4⟩
  have HB4 : Hid (Below w.heap.size w w4) := HB3.out.trans (hb4.mono HB3.out.size)
  have X4 : Hid (OwnJ w2.heap.size (.slice Xa len Xc) l w4) := X3.out.below hb4
  clear X3
  clear hb4 HB3
  have SZ4 : Hid (w.heap.size ≤ w4.heap.size) := HB4.out.size
  go_wp2_with fail
  refine (toIntS_is a0 len cap l HZ.out (by omega) _ (HR0.out.below HB4.out)).mono ?_
  rintro e w5 ⟨Ta, Tc, rfl, own5, hb5⟩
  rw [HZ.out] at own5
  try rw [HZ.out]
  have T5 : Hid (OwnJ w4.heap.size (.slice Ta len Tc) l w5) := own5.toJ HZ.out
  have hcT : Hid (len ≤ Tc) := own5.cap_le HZ.out
  have PXT : Hid (Apt Xa Ta) := apt_new X4.out T5.out
  have HB5 : Hid (Below w.heap.size w w5) := HB4.out.trans (hb5.mono HB4.out.size)
  have X5 : Hid (OwnJ w2.heap.size (.slice Xa len Xc) l w5) := X4.out.below hb5
  clear X4
  clear own5 hb5 HB4
  go_wp2_with fail
  refine (eqIntS_row HZ.out X5.out.row T5.out.row HL2.out).mono ?_
  rintro e w6 ⟨rfl, hb6⟩
  have HB6 : Hid (Below w.heap.size w w6) := HB5.out.trans (hb6.mono HB5.out.size)
  have X6 : Hid (OwnJ w2.heap.size (.slice Xa len Xc) l w6) := X5.out.below hb6
  have T6 : Hid (OwnJ w4.heap.size (.slice Ta len Tc) l w6) := T5.out.below hb6
  clear X5 T5
  clear hb6 HB5
  go_wp2_with fail
  go_ret
  exact ⟨rfl, HB6.out⟩

set_option maxHeartbeats 8000000 in
set_option maxRecDepth 100000 in
theorem exFormatLine_of (IMPL : Hid IFormatLine) (a0 : Option Addr) (len cap : Nat) (zs : List Int) (w : World) (hr : IsRow .i64 w a0 len cap zs) :
    Calls Try.prog 7 #[.slice a0 len cap] w fun e w' => e = .returned (.bool true) ∧ Below w.heap.size w w' := by
  obtain ⟨hr0, hz⟩ := isRow_row hr
  have hcap : len ≤ cap := by
    rcases hr with ⟨_, h1, h2, _⟩ | ⟨x, _, h1, _⟩
    · omega
    · exact h1
  generalize zs.take len = l at hr0 hz
  clear hr
  obtain ⟨v, hv⟩ : ∃ v, lineT l = v := ⟨_, rfl⟩
  have HV := Lib.hid hv
  clear hv
  by_cases hbig : (1048576 : Int) < (len : Int)
  · go_enter Try.func7, Try.ntmps7
    go_wp2
    go_ret
    exact ⟨rfl, Below.refl _ _⟩
  have HZ := Lib.hid hz
  have HR0 := Lib.hid hr0
  have HL : Hid (len ≤ 3000000) := by show len ≤ 3000000; omega
  have HL2 : Hid ((len : Int) ≤ 9223372036854775807) := by show _ ≤ _; omega
  clear hz hr0
  go_enter Try.func7, Try.ntmps7
  have HB0 : Hid (Below w.heap.size w w) := Below.refl _ _
  have SZ0 : Hid (w.heap.size ≤ w.heap.size) := HB0.out.size
  go_wp2_with fail
  refine (toIntS_is a0 len cap l HZ.out (by omega) _ (HR0.out.below HB0.out)).mono ?_
  rintro e w1 ⟨Aa, Ac, rfl, own1, hb1⟩
  rw [HZ.out] at own1
  try rw [HZ.out]
  have A1 : Hid (OwnJ w.heap.size (.slice Aa len Ac) l w1) := own1.toJ HZ.out
  have hcA : Hid (len ≤ Ac) := own1.cap_le HZ.out
  have HB1 : Hid (Below w.heap.size w w1) := HB0.out.trans (hb1.mono HB0.out.size)
  clear own1 hb1 HB0
  go_wp2_with fail
  refine (specFormatLine_is HZ.out A1.out.row v HV.out HL2.out).mono ?_
  rintro e w2 ⟨rfl, hb2⟩
  have HB2 : Hid (Below w.heap.size w w2) := HB1.out.trans (hb2.mono HB1.out.size)
  have A2 : Hid (OwnJ w.heap.size (.slice Aa len Ac) l w2) := A1.out.below hb2
  clear A1
  clear hb2 HB1
  clear A2
  have SZ2 : Hid (w.heap.size ≤ w2.heap.size) := HB2.out.size
  go_wp2_with fail
  refine (toIntS_is a0 len cap l HZ.out (by omega) _ (HR0.out.below HB2.out)).mono ?_
  rintro e w3 ⟨Xa, Xc, rfl, own3, hb3⟩
  rw [HZ.out] at own3
  try rw [HZ.out]
  have X3 : Hid (OwnJ w2.heap.size (.slice Xa len Xc) l w3) := own3.toJ HZ.out
  have hcX : Hid (len ≤ Xc) := own3.cap_le HZ.out
  have HB3 : Hid (Below w.heap.size w w3) := HB2.out.trans (hb3.mono HB2.out.size)
  clear own3 hb3 HB2
  go_wp2_with fail
  refine (IMPL.out Xa len Xc l v HV.out HZ.out HL.out hcX.out _ X3.out.row).mono ?_
  rintro e w4 ⟨rfl, hb4⟩
  have HB4 : Hid (Below w.heap.size w w4) := HB3.out.trans (hb4.mono HB3.out.size)
  have X4 : Hid (OwnJ w2.heap.size (.slice Xa len Xc) l w4) := X3.out.below hb4
  clear X3
  clear hb4 HB3
  have SZ4 : Hid (w.heap.size ≤ w4.heap.size) := HB4.out.size
  go_wp2_with fail
  refine (toIntS_is a0 len cap l HZ.out (by omega) _ (HR0.out.below HB4.out)).mono ?_
  rintro e w5 ⟨Ta, Tc, rfl, own5, hb5⟩
  rw [HZ.out] at own5
  try rw [HZ.out]
  have T5 : Hid (OwnJ w4.heap.size (.slice Ta len Tc) l w5) := own5.toJ HZ.out
  have hcT : Hid (len ≤ Tc) := own5.cap_le HZ.out
  have PXT : Hid (Apt Xa Ta) := apt_new X4.out T5.out
  have HB5 : Hid (Below w.heap.size w w5) := HB4.out.trans (hb5.mono HB4.out.size)
  have X5 : Hid (OwnJ w2.heap.size (.slice Xa len Xc) l w5) := X4.out.below hb5
  clear X4
  clear own5 hb5 HB4
  go_wp2_with fail
  refine (eqIntS_row HZ.out X5.out.row T5.out.row HL2.out).mono ?_
  rintro e w6 ⟨rfl, hb6⟩
  have HB6 : Hid (Below w.heap.size w w6) := HB5.out.trans (hb6.mono HB5.out.size)
  have X6 : Hid (OwnJ w2.heap.size (.slice Xa len Xc) l w6) := X5.out.below hb6
  have T6 : Hid (OwnJ w4.heap.size (.slice Ta len Tc) l w6) := T5.out.below hb6
  clear X5 T5
  clear hb6 HB5
  go_wp2_with fail
  go_ret
  exact ⟨rfl, HB6.out⟩

set_option maxHeartbeats 8000000 in
set_option maxRecDepth 100000 in
theorem exSymbolsOfWord_of (IMPL : Hid ISymbolsOfWord) (x : Int) (w : World) :
    Calls Try.prog 4 #[.int .i64 x] w fun e w' => e = .returned (.bool true) ∧ Below w.heap.size w w' := by
  obtain ⟨v, hv⟩ : ∃ v, symW x = v := ⟨_, rfl⟩
  have hvl : v.length ≤ 8 := by rw [← hv]; exact symW_le x
  obtain ⟨m, hm⟩ : ∃ m, v.length = m := ⟨_, rfl⟩
  have HV := Lib.hid hv
  have HM := Lib.hid hm
  have hm11 : m ≤ 8 := by omega
  have HML := Lib.hid hm11
  have HML2 : Hid ((m : Int) ≤ 9223372036854775807) := by show _ ≤ _; omega
  have t1n : decide (((1 + m : Nat) : Int) < 0) = false := decide_eq_false (by omega)
  have tmm : (((1 + m : Nat) : Int) != ((1 + m : Nat) : Int)) = false := by simp
  clear hv hvl hm
  go_enter Try.func4, Try.ntmps4
  have HB0 : Hid (Below w.heap.size w w) := Below.refl _ _
  have SZ0 : Hid (w.heap.size ≤ w.heap.size) := HB0.out.size
  go_wp2_with fail
  refine (specSymbolsOfWord_is x v HV.out _).mono ?_
  rintro e w1 ⟨Va, Vc, rfl, own1, hb1⟩
  rw [HM.out] at own1
  try rw [HM.out]
  have V1 : Hid (OwnJ w.heap.size (.slice Va m Vc) v w1) := own1.toJ HM.out
  have HB1 : Hid (Below w.heap.size w w1) := HB0.out.trans (hb1.mono HB0.out.size)
  clear own1 hb1 HB0
  have SZ1 : Hid (w.heap.size ≤ w1.heap.size) := HB1.out.size
  go_wp2_with fail
  refine (IMPL.out x m HML.out v HV.out HM.out _).mono ?_
  rintro e w2 ⟨Ga, Gc, rfl, _, own2, hb2⟩
  have G2 : Hid (OwnJ w1.heap.size (.slice Ga m Gc) v w2) := own2
  have PVG : Hid (Apt Va Ga) := apt_new V1.out G2.out
  have HB2 : Hid (Below w.heap.size w w2) := HB1.out.trans (hb2.mono HB1.out.size)
  have V2 : Hid (OwnJ w.heap.size (.slice Va m Vc) v w2) := V1.out.below hb2
  clear V1
  clear own2 hb2 HB1
  go_wp2_with fail
  refine (eqIntS_row HM.out G2.out.row V2.out.row HML2.out).mono ?_
  rintro e w3 ⟨rfl, hb3⟩
  have HB3 : Hid (Below w.heap.size w w3) := HB2.out.trans (hb3.mono HB2.out.size)
  have V3 : Hid (OwnJ w.heap.size (.slice Va m Vc) v w3) := V2.out.below hb3
  have G3 : Hid (OwnJ w1.heap.size (.slice Ga m Gc) v w3) := G2.out.below hb3
  clear V2 G2
  clear hb3 HB2
  obtain ⟨gR, hgR, hBR, hneR⟩ := G3.out.pick
  have HBB : Hid (w.heap.size ≤ gR) := Nat.le_trans SZ1.out hBR
  have NV : Hid (∀ y, Va = some y → y.block ≠ gR) := fun y hy => hneR y.block (V3.out.lo y hy).2 (fun x hx => fun h => PVG.out y x hy hx h.symm)
  clear hneR hBR
  have HGR := Lib.hid hgR
  clear hgR
  go_wp2_with fail
  refine (markIntS_j HM.out G3.out 1 (by omega) gR HGR.out).mono ?_
  rintro e w4 ⟨rfl, own4, ho4⟩
  have HB4 : Hid (Below w.heap.size w w4) := HB3.out.trans (ho4.below HBB.out HB3.out.size)
  have V4 : Hid (OwnJ w.heap.size (.slice Va m Vc) v w4) := V3.out.keep ho4 NV.out
  have G4 : Hid (OwnJ w1.heap.size (.slice Ga m Gc) (marksI 1 m) w4) := own4
  clear V3 G3 own4 ho4 HB3 HBB HGR NV
  go_wp2_with fail
  refine (heldIntS_row 1 G4.out.row (by omega)).mono ?_
  rintro e w5 ⟨rfl, hb5⟩
  have HB5 : Hid (Below w.heap.size w w5) := HB4.out.trans (hb5.mono HB4.out.size)
  have V5 : Hid (OwnJ w.heap.size (.slice Va m Vc) v w5) := V4.out.below hb5
  have G5 : Hid (OwnJ w1.heap.size (.slice Ga m Gc) (marksI 1 m) w5) := G4.out.below hb5
  clear V4 G4
  clear hb5 HB4
  have SZ5 : Hid (w.heap.size ≤ w5.heap.size) := HB5.out.size
  go_wp2_with fail
  refine (IMPL.out x m HML.out v HV.out HM.out _).mono ?_
  rintro e w6 ⟨Ha, Hc, rfl, _, own6, hb6⟩
  have H6 : Hid (OwnJ w5.heap.size (.slice Ha m Hc) v w6) := own6
  have PVH : Hid (Apt Va Ha) := apt_new V5.out H6.out
  have PGH : Hid (Apt Ga Ha) := apt_new G5.out H6.out
  have HB6 : Hid (Below w.heap.size w w6) := HB5.out.trans (hb6.mono HB5.out.size)
  have V6 : Hid (OwnJ w.heap.size (.slice Va m Vc) v w6) := V5.out.below hb6
  have G6 : Hid (OwnJ w1.heap.size (.slice Ga m Gc) (marksI 1 m) w6) := G5.out.below hb6
  clear V5 G5
  clear own6 hb6 HB5
  go_wp2_with fail
  refine (eqIntS_row HM.out H6.out.row V6.out.row HML2.out).mono ?_
  rintro e w7 ⟨rfl, hb7⟩
  have HB7 : Hid (Below w.heap.size w w7) := HB6.out.trans (hb7.mono HB6.out.size)
  have V7 : Hid (OwnJ w.heap.size (.slice Va m Vc) v w7) := V6.out.below hb7
  have G7 : Hid (OwnJ w1.heap.size (.slice Ga m Gc) (marksI 1 m) w7) := G6.out.below hb7
  have H7 : Hid (OwnJ w5.heap.size (.slice Ha m Hc) v w7) := H6.out.below hb7
  clear V6 G6 H6
  clear hb7 HB6
  clear H7
  go_wp2_with fail
  refine (heldIntS_row 1 G7.out.row (by omega)).mono ?_
  rintro e w8 ⟨rfl, hb8⟩
  have HB8 : Hid (Below w.heap.size w w8) := HB7.out.trans (hb8.mono HB7.out.size)
  have V8 : Hid (OwnJ w.heap.size (.slice Va m Vc) v w8) := V7.out.below hb8
  have G8 : Hid (OwnJ w1.heap.size (.slice Ga m Gc) (marksI 1 m) w8) := G7.out.below hb8
  clear V7 G7
  clear hb8 HB7
  go_wp2_with fail
  go_ret
  exact ⟨rfl, HB8.out⟩

end Go.Proofs.Ytpddinflkkcodaa

namespace Go.Proofs.Ytpddinflkkcodaa
open Go.RowKit Go.PlainAid

set_option linter.unusedVariables false

theorem row_two (w : World) : RowI (w.alloc (.cells #[.int .i64 1, .int .i64 2] 3)) (some ⟨w.heap.size, 0, none⟩) [1, 2] := by
  refine .inr ⟨_, 0, rfl, fun i hi => ?_⟩
  have h := heap_alloc_new w (.cells #[.int .i64 1, .int .i64 2] 3)
  obtain ⟨c0, c1⟩ := cells2 h
  match i, hi with
  | 0, _ => exact c0
  | 1, _ => exact c1

set_option maxHeartbeats 8000000 in
set_option maxRecDepth 100000 in
theorem fnWordSymbols_of (SYM : Hid ISymbolsOfWord) (WRD : Hid IWordOfSymbols) (a0 : Option Addr) (len cap : Nat) (zs : List Int) (w : World) (hr : IsRow .u8 w a0 len cap zs) :
    Calls Try.prog 3 #[.slice a0 len cap] w fun e w' => e = .returned (.bool true) ∧ Below w.heap.size w w' := by
  have hl := hr.len_le
  unfold maxLen at hl
  by_cases hbig : (1048576 : Int) < (len : Int)
  · go_enter Try.func3, Try.ntmps3
    go_wp2_with (go_at_call 8; refine (big_any _ _ _ _ (by omega)).mono ?_; rintro e w' ⟨rfl, rfl⟩)
    go_ret
    exact ⟨rfl, Below.refl _ _⟩
  have HR := Lib.hid hr
  clear hr
  go_enter Try.func3, Try.ntmps3
  go_wp2_with (go_at_call 8; refine (big_any _ _ _ _ (by omega)).mono ?_; rintro e w' ⟨rfl, rfl⟩)
  have HB0 : Hid (Below w.heap.size w w) := Below.refl _ _
  have SZ0 : Hid (w.heap.size ≤ w.heap.size) := HB0.out.size
  refine (drawWord_any (HR.out.below (fun x h => HR.out.lt h) HB0.out)).mono ?_
  rintro e w1 ⟨x, rfl, hwd, hb1⟩
  have HWD := Lib.hid hwd
  clear hwd
  have HB1 : Hid (Below w.heap.size w w1) := HB0.out.trans (hb1.mono HB0.out.size)
  clear hb1 HB0
  obtain ⟨s, hs⟩ : ∃ s, symW x = s := ⟨_, rfl⟩
  have HS := Lib.hid hs
  have HSL : Hid (s.length = 8) := by show _ = _; rw [← hs]; exact symW_len HWD.out
  have HSW : Hid (wordS s = (x, true)) := by show _ = _; rw [← hs]; exact wordS_symW HWD.out
  have HNO : Hid (wordS [1, 2] = (0, false)) := by show _ = _; decide
  have txx : (x == x) = true := beq_self_eq_true _
  clear hs
  have SZ1 : Hid (w.heap.size ≤ w1.heap.size) := HB1.out.size
  go_wp2_with fail
  refine (SYM.out x 8 (by decide) s HS.out HSL.out _).mono ?_
  rintro e w2 ⟨Sa, Sc, rfl, hcS', own2, hb2⟩
  have hcS := Lib.hid hcS'
  clear hcS'
  have S2 : Hid (OwnJ w1.heap.size (.slice Sa 8 Sc) s w2) := own2
  have HB2 : Hid (Below w.heap.size w w2) := HB1.out.trans (hb2.mono HB1.out.size)
  clear own2 hb2 HB1
  go_wp2_with fail
  refine (WRD.out Sa 8 Sc s x true HSW.out HSL.out (by decide) hcS.out _ S2.out.row).mono ?_
  rintro e w3 ⟨rfl, hb3⟩
  have HB3 : Hid (Below w.heap.size w w3) := HB2.out.trans (hb3.mono HB2.out.size)
  have S3 : Hid (OwnJ w1.heap.size (.slice Sa 8 Sc) s w3) := S2.out.below hb3
  clear S2
  clear hb3 HB2
  have hbA : Below w3.heap.size w3 (w3.alloc (.cells #[.int .i64 1, .int .i64 2] 3)) := (Below.refl _ _).alloc (Nat.le_refl _) _
  have HBA : Hid (Below w.heap.size w (w3.alloc (.cells #[.int .i64 1, .int .i64 2] 3))) := HB3.out.trans (hbA.mono HB3.out.size)
  have HRT : Hid (RowI (w3.alloc (.cells #[.int .i64 1, .int .i64 2] 3)) (some ⟨w3.heap.size, 0, none⟩) [1, 2]) := row_two _
  clear hbA
  go_wp2_with fail
  refine (WRD.out (some ⟨w3.heap.size, 0, none⟩) 2 2 [1, 2] 0 false HNO.out rfl (by decide) (Nat.le_refl _) _ HRT.out).mono ?_
  rintro e w4 ⟨rfl, hbB⟩
  have HBB : Hid (Below w.heap.size w w4) := HBA.out.trans (hbB.mono HBA.out.size)
  clear hbB
  go_wp2_with fail
  go_ret
  exact ⟨rfl, HBB.out⟩

end Go.Proofs.Ytpddinflkkcodaa

namespace Go.Proofs.Ytpddinflkkcodaa
open Go.RowKit Go.PlainAid

set_option linter.unusedVariables false

theorem implBad_is (a : Int) (v : Bool) (hv : (!decide (El a)) = v) (w : World) :
    Calls Try.prog 38 #[.int .i64 a] w (Says (.bool v) w) := by
  obtain ⟨u, hu⟩ : ∃ u, decide (El a) = u := ⟨_, rfl⟩
  have HE : Hid ((!u) = v) := by show _ = _; rw [← hu]; exact hv
  have HU := Lib.hid hu
  clear hu hv
  go_enter Try.func38, Try.ntmps38
  go_wp2_with fail
  refine (implIsEl_is a u HU.out _).mono ?_
  rintro e w2 ⟨rfl, rfl⟩
  go_wp2_with fail
  go_ret
  exact ⟨ret_b HE.out, rfl⟩

set_option maxHeartbeats 1000000 in
set_option maxRecDepth 100000 in
theorem implIndexBad_is {a : Option Addr} {n c : Nat} {l : List Int} (hn : l.length = n) (hl : n ≤ 3000000) {w : World} (h : RowI w a l) (v : Bool) (hv : decide (Els l) = v) :
    Calls Try.prog 50 #[.slice a n c, .func (.func 38) #[] #[]] w fun e w' => ∃ i : Int, e = .returned (.int .i64 i) ∧ decide (0 ≤ i) = (!v) ∧ w = w' := by
  have HN := Lib.hid hn
  have HA := Lib.hid h
  have HV := Lib.hid hv
  have hl2 : (n : Int) ≤ 9223372036854775807 := by omega
  clear hn h hv
  go_enter Try.func50, Try.ntmps50
  go_wp2_with fail
  go_loopw [8] (fun i wr => ∃ k : Nat, k ≤ n ∧ i = .int .i64 k ∧ Els (l.take k) ∧ wr = w) (fun i _ => n - (intOf i).toNat)
  case atStart => exact ⟨0, Nat.zero_le _, rfl, (fun v hv => by cases hv), rfl⟩
  case round =>
    obtain ⟨k, hk, rfl, hels, rfl⟩ := hrel
    have HE := Lib.hid hels
    clear hels
    by_cases hlt : k < n
    · obtain ⟨ga, oa, rfl, hca⟩ := HA.out.at (k := k) (by rw [HN.out]; exact hlt)
      obtain ⟨x, hx⟩ : ∃ x, l.getD k 0 = x := ⟨_, rfl⟩
      rw [hx] at hca
      by_cases he : El x
      · have HS := Lib.hid (els_take (by rw [HN.out]; exact hlt) HE.out (hx ▸ he))
        have KA : Hid ((!decide (El x)) = false) := by show _ = _; rw [decide_eq_true he]; rfl
        clear hx he
        go_wp2_with fail
        refine (implBad_is x false KA.out _).mono ?_
        rintro e w2 ⟨rfl, rfl⟩
        go_wp2_with fail
        go_roundw
        case rel => exact ⟨k + 1, by omega, by go_num, HS.out, by trivial⟩
        case measure => simp [intOf]; omega
      · have HF : Hid (false = v) := by show _ = _; rw [← HV.out]; exact (decide_eq_false (fun q => he (hx ▸ el_getD q (by rw [HN.out]; exact hlt)))).symm
        have KA : Hid ((!decide (El x)) = true) := by show _ = _; rw [decide_eq_false he]; rfl
        clear hx he
        go_wp2_with fail
        refine (implBad_is x true KA.out _).mono ?_
        rintro e w2 ⟨rfl, rfl⟩
        go_wp2_with fail
        go_ret
        exact ⟨_, rfl, by rw [← HF.out]; exact decide_eq_true (by omega), rfl⟩
    · obtain rfl : k = n := by omega
      have HF : Hid (true = v) := by
        show _ = _
        rw [← HV.out]
        have := HE.out
        rw [List.take_of_length_le (by rw [HN.out]; omega)] at this
        exact (decide_eq_true this).symm
      go_wp2_with fail
      go_ret
      exact ⟨_, rfl, by rw [← HF.out]; rfl, rfl⟩

theorem implContainsBad_is {a : Option Addr} {n c : Nat} {l : List Int} (hn : l.length = n) (hl : n ≤ 3000000) {w : World} (h : RowI w a l) (v : Bool) (hv : decide (Els l) = v) :
    Calls Try.prog 37 #[.slice a n c, .func (.func 38) #[] #[]] w (Says (.bool (!v)) w) := by
  have HN := Lib.hid hn
  have HA := Lib.hid h
  have HV := Lib.hid hv
  clear hn h hv
  go_enter Try.func37, Try.ntmps37
  go_wp2_with fail
  refine (implIndexBad_is HN.out hl HA.out v HV.out).mono ?_
  rintro e w2 ⟨i, rfl, hi, rfl⟩
  have HI := Lib.hid hi
  clear hi
  go_wp2_with fail
  go_ret
  exact ⟨ret_b HI.out, rfl⟩

theorem implSymbolsOk_is : ISymbolsOk := by
  intro a n c l m v hv hn hl hc w h
  by_cases hm : (n : Int) = m
  case neg =>
    have tm : ((n : Int) == m) = false := by simpa using hm
    obtain rfl : v = false := by rw [← hv]; exact decide_eq_false fun q => hm (by rw [← hn]; exact q.2)
    clear hv h hm hn
    go_enter Try.func26, Try.ntmps26
    go_wp2_with fail
    go_ret
    exact ⟨rfl, Below.refl _ _⟩
  have HE : Hid (decide (Els l) = v) := by
    show _ = _
    rw [← hv]
    exact decide_eq_decide.mpr ⟨fun q => ⟨q, by rw [hn]; exact hm⟩, fun q => q.1⟩
  have HN := Lib.hid hn
  have HA := Lib.hid h
  clear hv hn h
  subst hm
  have tm : ((n : Int) == (n : Int)) = true := by simp
  go_enter Try.func26, Try.ntmps26
  go_wp2_with fail
  refine (implContainsBad_is HN.out hl HA.out v HE.out).mono ?_
  rintro e w2 ⟨rfl, rfl⟩
  go_wp2_with fail
  go_ret
  exact ⟨rfl, Below.refl _ _⟩

set_option maxHeartbeats 2000000 in
set_option maxRecDepth 100000 in
theorem implEqualI_is {a b : Option Addr} {n m c d : Nat} {xs ys : List Int} (hx : xs.length = n) (hy : ys.length = m) (hl : n ≤ 3000000) (hm : m ≤ 3000000) {w : World} (ha : RowI w a xs) (hb : RowI w b ys) (v : Bool) (hv : decide (xs = ys) = v) :
    Calls Try.prog 51 #[.slice a n c, .slice b m d] w fun e w' => e = .returned (.bool v) ∧ ∃ q, w' = w.drewN q := by
  have HX := Lib.hid hx
  have HY := Lib.hid hy
  have HA := Lib.hid ha
  have HB := Lib.hid hb
  by_cases hnm : n = m
  case neg =>
    have tn : ((n : Int) != (m : Int)) = true := by rw [bne_iff_ne]; omega
    have HF : Hid (false = v) := by show _ = _; rw [← hv]; exact (decide_eq_false (fun e => hnm (by rw [← hx, ← hy, e]))).symm
    clear hx hy ha hb hv hnm
    go_enter Try.func51, Try.ntmps51
    go_wp2_with fail
    go_ret
    exact ⟨ret_b HF.out, 0, rfl⟩
  subst hnm
  have HV := Lib.hid hv
  have tn : ((n : Int) != (n : Int)) = false := by simp
  clear hx hy ha hb hv
  go_enter Try.func51, Try.ntmps51
  go_wp2_with fail
  go_loopw [13] (fun i wr => ∃ k q : Nat, k ≤ n ∧ i = .int .i64 k ∧ (∀ j, j < k → xs.getD j 0 = ys.getD j 0) ∧ wr = w.drewN q) (fun i _ => n - (intOf i).toNat)
  case atStart => exact ⟨0, 0, Nat.zero_le _, rfl, (fun j hj => absurd hj (Nat.not_lt_zero _)), rfl⟩
  case round =>
    obtain ⟨k, q, hk, rfl, heq, rfl⟩ := hrel
    have HE := Lib.hid heq
    clear heq
    by_cases hlt : k < n
    · obtain ⟨ga, oa, rfl, hca⟩ := HA.out.at (k := k) (by rw [HX.out]; exact hlt)
      obtain ⟨gb, ob, rfl, hcb⟩ := HB.out.at (k := k) (by rw [HY.out]; exact hlt)
      obtain ⟨x, hx⟩ : ∃ x, xs.getD k 0 = x := ⟨_, rfl⟩
      obtain ⟨y, hy⟩ : ∃ y, ys.getD k 0 = y := ⟨_, rfl⟩
      rw [hx] at hca
      rw [hy] at hcb
      by_cases hxy : x = y
      · have HS : Hid (∀ j, j < k + 1 → xs.getD j 0 = ys.getD j 0) := fun j hj => by
          by_cases e : j = k
          · subst e; rw [hx, hy, hxy]
          · exact HE.out j (by omega)
        have txy : (x != y) = false := by rw [hxy]; simp
        clear hx hy hxy
        go_wp2_with fail
        go_quiet (fail)
        go_wp2
        go_roundw
        case rel => exact ⟨k + 1, _, by omega, by go_num, HS.out, rfl⟩
        case measure => simp [intOf]; omega
      · have HF : Hid (false = v) := by show _ = _; rw [← HV.out]; exact (decide_eq_false (fun e => hxy (by rw [← hx, ← hy, e]))).symm
        have txy : (x != y) = true := by rw [bne_iff_ne]; exact hxy
        clear hx hy hxy
        go_wp2_with fail
        go_quiet (fail)
        go_wp2
        go_ret
        exact ⟨ret_b HF.out, q + nq, by first | rfl | exact World.drewN_drewN _ _ _ | simp [World.drewN_add]⟩
    · obtain rfl : k = n := by omega
      have HF : Hid (true = v) := by
        show _ = _
        rw [← HV.out]
        refine (decide_eq_true ?_).symm
        apply List.ext_getElem (by rw [HX.out, HY.out])
        intro i h1 h2
        have := HE.out i (by rw [← HX.out]; exact h1)
        rwa [List.getD_eq_getElem?_getD, List.getD_eq_getElem?_getD, List.getElem?_eq_getElem h1, List.getElem?_eq_getElem h2] at this
      go_wp2_with fail
      go_ret
      exact ⟨ret_b HF.out, _, rfl⟩

end Go.Proofs.Ytpddinflkkcodaa

namespace Go.Proofs.Ytpddinflkkcodaa
open Go.RowKit Go.PlainAid

set_option linter.unusedVariables false

theorem getD_append_left {u v : List Int} {i : Nat} (h : i < u.length) : (u ++ v).getD i 0 = u.getD i 0 := by
  rw [List.getD_eq_getElem?_getD, List.getElem?_append_left h, ← List.getD_eq_getElem?_getD]

theorem copy_row {ops : Array Oper} {rest : List Oper} {o : Oper} {a : Act} {w : World} {Q : Exit → Act → World → Prop} (hgd : o.guard = none) (d s : Operand) (ho : o.op = .call { callee := .builtin .copy, args := #[d, s], argTypes := #[25, 25] })
    (B g off n c : Nat) (l : List Int) (hd : a.eval d = .slice (some ⟨g, off, none⟩) n c) (hown : OwnJ B (.slice (some ⟨g, off, none⟩) n c) l w) (ad : Addr) (m sc : Nat) (l2 : List Int) (hs : a.eval s = .slice (some ad) m sc) (hrow : RowI w (some ad) l2) (hm : l2.length = m) (hmn : m ≤ n) (hn0 : 0 < n)
    (h : ∀ w', OwnJ B (.slice (some ⟨g, off, none⟩) n c) (l2 ++ l.drop m) w' → Below B w w' → wpList Try.prog ops Q rest (a.put o.dst (.int .i64 (m : Int))) w') : wpList Try.prog ops Q (o :: rest) a w := by
  obtain ⟨_, _, _, hv, hl, ⟨h1, _, _⟩ | ⟨g', off', cur, hg, hB, hh, hc⟩⟩ := hown
  · cases hv; cases h1
  cases hv
  cases hg
  have hlast := hc (n - 1) (by omega)
  have hsz : off + n ≤ cur.size := by
    have := (Array.getElem?_eq_some_iff.1 hlast).1
    omega
  refine wpList_copy_splice hgd d s _ _ ho 3 Try.underlying25 (by kernel_rfl) (some ⟨g, off, none⟩) (some ad) n c m sc hd hs g off cur.toList 3 (by simpa using hh) (l2.map (Value.int .i64)) (by rw [List.length_map, hm]; exact (Nat.min_eq_left hmn).symm) (fun _ => ⟨rfl, ad, rfl, fun j u hj => ?_⟩) (by rw [List.length_map, hm]; simpa using (by omega : off + m ≤ cur.size)) (fun u hu => by obtain ⟨z, _, rfl⟩ := List.mem_map.1 hu; rfl) B w (Below.refl _ _) hB ?_
  · rw [List.getElem?_map] at hj
    rcases Nat.lt_or_ge j l2.length with hjl | hjl
    · rw [List.getElem?_eq_getElem hjl] at hj
      cases hj
      obtain ⟨b, o2, e, hcell⟩ := hrow.at hjl
      cases e
      rw [Addr.add_lit, hcell, List.getD_eq_getElem?_getD, List.getElem?_eq_getElem hjl]
      rfl
    · rw [List.getElem?_eq_none hjl] at hj
      cases hj
  · intro w' hw' hb'
    have := h w' ⟨_, _, _, rfl, by rw [List.length_append, List.length_drop, hm]; omega, .inr ⟨g, off, _, rfl, hB, hw'.out, fun i hi => ?_⟩⟩ hb'
    · rw [List.length_map, hm]
      exact this
    · rw [List.getElem?_toArray]
      unfold splice
      have hlt : (cur.toList.take off).length = off := by rw [List.length_take]; simp; omega
      rw [List.getElem?_append_right (by omega), hlt, Nat.add_sub_cancel_left]
      by_cases him : i < m
      · rw [List.getElem?_append_left (by rw [List.length_map]; omega), List.getElem?_map, getD_append_left (by omega), List.getElem?_eq_getElem (by omega), List.getD_eq_getElem?_getD, List.getElem?_eq_getElem (by omega)]
        rfl
      · rw [List.getElem?_append_right (by rw [List.length_map]; omega), List.length_map, hm, List.getElem?_drop, Array.getElem?_toList, show off + m + (i - m) = off + i by omega, hc i hi, List.getD_eq_getElem?_getD, List.getD_eq_getElem?_getD, List.getElem?_append_right (by omega), hm, List.getElem?_drop, show m + (i - m) = i by omega]

end Go.Proofs.Ytpddinflkkcodaa
