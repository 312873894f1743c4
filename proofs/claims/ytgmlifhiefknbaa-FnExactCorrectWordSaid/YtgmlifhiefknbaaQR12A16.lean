/-
  Texts of one proof, merged: RdyC, RdyJ, CodI, CodW, CodV, CodF, CodK, CodU, CodG, CodC, CodS, CodL2, CodQ.
-/
import Derived.Test.YtgmlifhiefknbaaQR12A1
import Derived.Test.YtgmlifhiefknbaaQR12A2
import Derived.Test.YtgmlifhiefknbaaQR12A5
import Derived.Test.YtgmlifhiefknbaaQR12A6
import Derived.Test.YtgmlifhiefknbaaQR12A8
import Derived.Test.YtgmlifhiefknbaaQR12A9
import Derived.Test.YtgmlifhiefknbaaQR12A12
import Derived.Test.YtgmlifhiefknbaaQR12A13
import Derived.Test.YtgmlifhiefknbaaQR12A15
import Derived.Maps.AppendAt
namespace Go.Proofs.Ytgmlifhiefknbaa
open Go.RowKit Go.PlainAid

set_option linter.unusedVariables false

theorem RowI.src {w : World} {ad : Addr} {l : List Int} (h : RowI w (some ad) l) : ∀ j u, (l.map (Value.int .i64))[j]? = some u → w.cell? (ad.add j) = some u := by
  rcases h with rfl | ⟨b, off, hb, h⟩
  · intro j u hu; simp at hu
  · cases hb
    intro j u hu
    rw [List.getElem?_map] at hu
    cases hl : l[j]? with
    | none => rw [hl] at hu; cases hu
    | some z =>
      rw [hl] at hu
      cases hu
      have hj : j < l.length := by
        rcases Nat.lt_or_ge j l.length with h1 | h1
        · exact h1
        · rw [List.getElem?_eq_none h1] at hl; cases hl
      have h2 := h j hj
      rw [List.getD_eq_getElem?_getD, hl] at h2
      unfold Addr.add
      by_cases h0 : j = 0
      · subst h0
        rw [if_pos rfl]
        exact h2
      · rw [if_neg h0]
        exact h2

/-- Holds behind operation L. -/
def FromW (L : Nat) (F : World → Prop) (listed : Array Bool) (u : World) : Prop := listed.getD L false = true → F u

theorem FromW.zero (L : Nat) (F : World → Prop) (n : Nat) (u : World) : FromW L F (Array.replicate n false) u := fun h => by rw [getD_replicate_false] at h; cases h

theorem FromW.no {L i : Nat} {F : World → Prop} {listed : Array Bool} {u : World} (h : listed.getD L false = false) (hi : i ≠ L) : FromW L F (listed.setIfInBounds i true) u := fun h2 => by rw [getD_set_ne false hi, h] at h2; cases h2

/-- Operation L comes last. -/
def AllW (L : Nat) (listed : Array Bool) : Prop := ∀ j, j < L → Aft L j listed

theorem AllW.keep {L i : Nat} {listed : Array Bool} (h : AllW L listed) (hi : i ≠ L) : AllW L (listed.setIfInBounds i true) := fun j hj => (h j hj).keep hi

/-- The rows that operations i and j answered lie apart, till operation m. -/
def AptR (i j m n1 n2 : Nat) (listed : Array Bool) (x : Nat → Value) : Prop := listed.getD j false = true → listed.getD m false = false → ∃ aa ca ab cb, x i = .slice aa n1 ca ∧ x j = .slice ab n2 cb ∧ Apt aa ab

theorem AptR.zero (i j m n1 n2 n : Nat) (x : Nat → Value) : AptR i j m n1 n2 (Array.replicate n false) x := fun h => by rw [getD_replicate_false] at h; cases h

theorem AptR.keep {i j m n1 n2 : Nat} {listed : Array Bool} {x : Nat → Value} (h : AptR i j m n1 n2 listed x) {k : Nat} (hi : k ≠ i) (hj : k ≠ j) (hm : k ≠ m) (v : Value) : AptR i j m n1 n2 (listed.setIfInBounds k true) (upd x k v) := fun h1 h2 => by
  rw [getD_set_ne false hj] at h1
  rw [getD_set_ne false hm] at h2
  rw [upd_other _ _ (Ne.symm hi), upd_other _ _ (Ne.symm hj)]
  exact h h1 h2

theorem AptR.no {i j m n1 n2 : Nat} {listed : Array Bool} {x : Nat → Value} (h : listed.getD j false = false) {k : Nat} (hj : k ≠ j) (v : Value) : AptR i j m n1 n2 (listed.setIfInBounds k true) (upd x k v) := fun h1 _ => by
  rw [getD_set_ne false hj, h] at h1; cases h1

theorem AptR.new {i j m n1 n2 : Nat} {listed : Array Bool} {x : Nat → Value} {ab : Option Addr} {cb : Nat} (hij : i ≠ j) (h : ∃ aa ca, x i = .slice aa n1 ca ∧ Apt aa ab) : AptR i j m n1 n2 (listed.setIfInBounds j true) (upd x j (.slice ab n2 cb)) := fun _ _ => by
  obtain ⟨aa, ca, e1, e2⟩ := h
  exact ⟨aa, ca, ab, cb, by rw [upd_other _ _ hij]; exact e1, upd_same _ _ _, e2⟩

theorem AptR.call {i j m n1 n2 : Nat} {listed : Array Bool} {x : Nat → Value} (h : m < listed.size) : AptR i j m n1 n2 (listed.setIfInBounds m true) x := fun _ h2 => by rw [get_set_same false h] at h2; cases h2

/-- Numbers appended to a row of the call's own; where the new row lies. -/
theorem append_int {ops : Array Oper} {rest : List Oper} {o : Oper} {a : Act} {w : World} {Q : Exit → Act → World → Prop} (hgd : o.guard = none) (s x : Operand) (ho : o.op = .call { callee := .builtin .append, args := #[s, x], argTypes := #[24, 24] })
    (base : Nat) (v : Value) (n : Nat) (xs : List Int) (hs : a.eval s = v) (hown : OwnI base v xs w) (hxn : xs.length = n) (ad : Option Addr) (m c : Nat) (news : List Int) (hx : a.eval x = .slice ad m c) (hl : news.length = m) (hnc : ad = none → c = 0) (hrow : RowI w ad news) (hbig : n + m ≤ 3500000) (hbase : base ≤ w.heap.size)
    (h : ∀ v' w', OwnI base v' (xs ++ news) w' → w.grownBy w' v.ownBlock → (v'.ownBlock = v.ownBlock ∨ v'.ownBlock = some w.heap.size) → wpList Try.prog ops Q rest (a.put o.dst v') w') : wpList Try.prog ops Q (o :: rest) a w := by
  obtain ⟨i0, hi, hz0, hz1, hz2⟩ := info_parts infoI
  have hown' : w.ownsRow base 3 1 v n (xs.map (Value.int .i64)) := by
    have h2 := hown
    unfold OwnI at h2
    rw [hxn] at h2
    exact h2
  cases ad with
  | none =>
    obtain rfl : c = 0 := hnc rfl
    have hn0 : news = [] := by
      rcases hrow with h2 | ⟨_, _, h2, _⟩
      · exact h2
      · cases h2
    subst hn0
    obtain rfl : m = 0 := hl.symm
    refine wpList_append_own_none hgd s x 24 ho base 3 i0 1 Try.underlying24 hi v n _ hs hown' hx (h v w ?_ ⟨rfl, rfl, rfl, Nat.le_refl _, fun _ _ _ => rfl⟩ (.inl rfl))
    rw [List.append_nil]
    exact hown
  | some ad =>
    have hfl : (news.map (Value.int .i64)).length = m * 1 := by rw [List.length_map, hl, Nat.mul_one]
    refine wpList_append_own_at _ hgd s x 24 ho base 3 i0 (.int .i64 0) 1 8 Try.underlying24 hi hz0 hz1 hz2 rfl (by decide) v n _ hs hown' ad m c (news.map (Value.int .i64)) hx hfl (RowI.src hrow) (fun u hu => by obtain ⟨z, _, rfl⟩ := List.mem_map.1 hu; rfl) (by unfold maxLen; omega) (by omega) hbase ?_
    intro v' w' ho2 hg _ hat
    refine h v' w' ?_ hg hat
    unfold OwnI
    rw [List.length_append, hxn, hl, List.map_append]
    exact ho2

end Go.Proofs.Ytgmlifhiefknbaa

namespace Go.Proofs.Ytgmlifhiefknbaa
open Go.RowKit Go.PlainAid

set_option linter.unusedVariables false

/-- A row of numbers in a block of the call's own. -/
def OwnJ (B : Nat) (v : Value) (l : List Int) (w : World) : Prop :=
  ∃ a n c, v = .slice a n c ∧ l.length = n ∧ ((a = none ∧ n = 0 ∧ c = 0) ∨ ∃ g off cur, a = some ⟨g, off, none⟩ ∧ B ≤ g ∧ w.heap[g]? = some (.cells cur 3 (0, 0)) ∧ ∀ i, i < n → cur[off + i]? = some (.int .i64 (l.getD i 0)))

theorem OwnI.toJ {B n c : Nat} {a : Option Addr} {l : List Int} {w : World} (hn : l.length = n) (h : OwnI B (.slice a n c) l w) : OwnJ B (.slice a n c) l w := by
  refine ⟨a, n, c, rfl, hn, ?_⟩
  rcases h.2 with ⟨hv, h0⟩ | ⟨g, cap, cur, hv, hB, hh, _, _, hs, ht⟩
  · cases hv
    exact .inl ⟨rfl, by omega, rfl⟩
  · cases hv
    refine .inr ⟨g, 0, cur, rfl, hB, hh, fun i hi => ?_⟩
    rw [Nat.zero_add]
    have h1 : (cur.toList.take (l.length * 1))[i]? = (l.map (Value.int .i64))[i]? := by rw [ht]
    rw [List.getElem?_take_of_lt (by omega), List.getElem?_map] at h1
    rw [← Array.getElem?_toList, h1, List.getD_eq_getElem?_getD]
    cases e : l[i]? with
    | none => rw [List.getElem?_eq_none_iff] at e; omega
    | some z => rfl

theorem OwnJ.at {B n c : Nat} {a : Option Addr} {l : List Int} {w : World} (h : OwnJ B (.slice a n c) l w) {k : Nat} (hk : k < l.length) :
    ∃ g off, a = some ⟨g, off, none⟩ ∧ w.cell? ⟨g, off + k, none⟩ = some (.int .i64 (l.getD k 0)) ∧ w.frozen? ⟨g, off + k, none⟩ = false ∧ B ≤ g ∧ g < w.heap.size := by
  obtain ⟨_, _, _, hv, hl, h | ⟨g, off, cur, rfl, hB, hh, hc⟩⟩ := h
  · cases hv; omega
  · cases hv
    exact ⟨g, off, rfl, by simp only [World.cell?, hh]; exact hc k (by omega), by simp [World.frozen?, hh], hB, lt_of_block hh⟩

theorem OwnJ.row {B n c : Nat} {a : Option Addr} {l : List Int} {w : World} (h : OwnJ B (.slice a n c) l w) : RowI w a l := by
  obtain ⟨_, _, _, hv, hl, ⟨h1, h2, h3⟩ | ⟨g, off, cur, rfl, hB, hh, hc⟩⟩ := h
  · cases hv
    exact .inl (List.length_eq_zero_iff.1 (by omega))
  · cases hv
    exact .inr ⟨g, off, rfl, fun i hi => by simp only [World.cell?, hh]; exact hc i (by omega)⟩

theorem OwnJ.mono {B C : Nat} {v : Value} {l : List Int} {w : World} (h : OwnJ B v l w) (hC : C ≤ B) : OwnJ C v l w := by
  obtain ⟨a, n, c, hv, hl, h | ⟨g, off, cur, ha, hB, hh, hc⟩⟩ := h
  · exact ⟨a, n, c, hv, hl, .inl h⟩
  · exact ⟨a, n, c, hv, hl, .inr ⟨g, off, cur, ha, Nat.le_trans hC hB, hh, hc⟩⟩

theorem OwnJ.same {B n c : Nat} {a : Option Addr} {l : List Int} {w w' : World} (h : OwnJ B (.slice a n c) l w) (hk : ∀ x, a = some x → w'.heap[x.block]? = w.heap[x.block]?) : OwnJ B (.slice a n c) l w' := by
  obtain ⟨_, _, _, hv, hl, h | ⟨g, off, cur, rfl, hB, hh, hc⟩⟩ := h
  · exact ⟨_, _, _, hv, hl, .inl h⟩
  · cases hv
    exact ⟨_, _, _, rfl, hl, .inr ⟨g, off, cur, rfl, hB, (hk _ rfl).trans hh, hc⟩⟩

theorem OwnJ.lo {B n c : Nat} {a : Option Addr} {l : List Int} {w : World} (h : OwnJ B (.slice a n c) l w) : ∀ x, a = some x → B ≤ x.block ∧ x.block < w.heap.size := by
  obtain ⟨_, _, _, hv, hl, ⟨h1, _, _⟩ | ⟨g, off, cur, rfl, hB, hh, hc⟩⟩ := h
  · cases hv
    rintro x rfl
    cases h1
  · cases hv
    rintro x hx
    cases hx
    exact ⟨hB, lt_of_block hh⟩

theorem OwnJ.nil {B n c : Nat} {a : Option Addr} {l : List Int} {w : World} (h : OwnJ B (.slice a n c) l w) : a = none → c = 0 := by
  obtain ⟨_, _, _, hv, hl, ⟨h1, h2, h3⟩ | ⟨g, off, cur, rfl, hB, hh, hc⟩⟩ := h
  · cases hv
    exact fun _ => h3
  · cases hv
    intro h
    cases h

theorem OwnJ.below {B n c : Nat} {a : Option Addr} {l : List Int} {w w' : World} (h : OwnJ B (.slice a n c) l w) (hb : Below w.heap.size w w') : OwnJ B (.slice a n c) l w' :=
  h.same (fun x hx => hb.block _ (h.lo x hx).2)

theorem OwnJ.keep {B c n : Nat} {a : Option Addr} {l : List Int} {w w' : World} {g : Nat} (h : OwnJ B (.slice a n c) l w) (ho : Only g w w') (hne : ∀ x, a = some x → x.block ≠ g) : OwnJ B (.slice a n c) l w' :=
  h.same (fun x hx => ho.block _ (h.lo x hx).2 (hne x hx))

theorem OwnJ.alloc {B c n : Nat} {a : Option Addr} {l : List Int} {w : World} (p : OwnJ B (.slice a n c) l w) (o : Obj) : OwnJ B (.slice a n c) l (w.alloc o) :=
  p.below ((Below.refl _ _).alloc (Nat.le_refl _) o)

theorem OwnJ.set {B c n : Nat} {a : Option Addr} {l : List Int} {w : World} {p : Addr} (h : OwnJ B (.slice a n c) l w) (hp : ∀ x, a = some x → x.block ≠ p.block) (v : Value) : OwnJ B (.slice a n c) l (w.setCell p v) :=
  h.same (fun x hx => Below.heap_setCell _ _ _ _ (hp x hx))

theorem OwnJ.stored {B n c g off : Nat} {l : List Int} {w : World} (h : OwnJ B (.slice (some ⟨g, off, none⟩) n c) l w) (hl : l.length = n) {k : Nat} (hk : k < n) (x : Int) : OwnJ B (.slice (some ⟨g, off, none⟩) n c) (l.set k x) (w.setCell ⟨g, off + k, none⟩ (.int .i64 x)) := by
  obtain ⟨_, _, _, hv, _, ⟨h1, _, _⟩ | ⟨g', off', cur, hg, hB, hh, hc⟩⟩ := h
  · cases hv; cases h1
  · cases hv
    cases hg
    refine ⟨_, _, _, rfl, by rw [List.length_set]; exact hl, .inr ⟨g, off, cur.setIfInBounds (off + k) (.int .i64 x), rfl, hB, ?_, fun i hi => ?_⟩⟩
    · exact set_cells hh (off + k) (.int .i64 x)
    · by_cases e : i = k
      · subst e
        have hlt : off + i < cur.size := by
          have := hc i hi
          rcases Nat.lt_or_ge (off + i) cur.size with h | h
          · exact h
          · rw [Array.getElem?_eq_none h] at this; cases this
        rw [Array.getElem?_setIfInBounds_self_of_lt hlt, List.getD_eq_getElem?_getD, List.getElem?_set_self (by omega)]
        rfl
      · rw [Array.getElem?_setIfInBounds_ne (by omega), List.getD_eq_getElem?_getD, List.getElem?_set_ne (by omega), ← List.getD_eq_getElem?_getD]
        exact hc i hi

set_option maxHeartbeats 1000000 in
/-- Two rows of numbers that are alike. -/
theorem eqIntS_row {a b : Option Addr} {ca cb : Nat} {l : List Int} {w : World} {n : Nat} (hn : l.length = n) (ha : RowI w a l) (hb : RowI w b l) (hl : (n : Int) ≤ 9223372036854775807) :
    Calls Try.prog 19 #[.slice a n ca, .slice b n cb] w (Gives (.bool true) w) := by
  have HN := Lib.hid hn
  have HA := Lib.hid ha
  have HB := Lib.hid hb
  clear hn ha hb
  go_enter Try.func19, Try.ntmps19
  go_wp2_with fail
  go_loopw [5] (fun i wr => ∃ k : Nat, k ≤ n ∧ i = .int .i64 k ∧ ∃ q, wr = w.drewN q) (fun i _ => n - (intOf i).toNat)
  case atStart => exact ⟨0, Nat.zero_le _, rfl, 0, rfl⟩
  case round =>
    obtain ⟨k, hk, rfl, q, rfl⟩ := hrel
    by_cases hlt : k < n
    · obtain ⟨ga, oa, rfl, hca⟩ := HA.out.at (k := k) (by rw [HN.out]; exact hlt)
      obtain ⟨gb, ob, rfl, hcb⟩ := HB.out.at (k := k) (by rw [HN.out]; exact hlt)
      obtain ⟨x, hx⟩ : ∃ x, l.getD k 0 = x := ⟨_, rfl⟩
      rw [hx] at hca hcb
      have txx : (x != x) = false := by simp
      clear hx
      go_wp2_with fail
      go_quiet (fail)
      go_wp2
      go_roundw
      case rel => exact ⟨k + 1, by omega, by go_num, _, rfl⟩
      case measure => simp [intOf]; omega
    · go_wp2_with fail
      go_ret
      exact ⟨rfl, rfl, rfl, rfl, Nat.le_refl _, fun _ _ => rfl⟩

set_option maxHeartbeats 1000000 in
theorem markIntS_j {B : Nat} {a : Option Addr} {c : Nat} {l : List Int} {w : World} {n : Nat} (hn : l.length = n) (h : OwnJ B (.slice a n c) l w) (k0 : Nat) (h1 : k0 + n ≤ 1000000000) (g0 : Nat) (hg0 : ∀ x, a = some x → x.block = g0) :
    Calls Try.prog 22 #[.slice a n c, .int .i64 k0] w fun e w' => e = .returned (.int .i64 ((k0 + n : Nat) : Int)) ∧ OwnJ B (.slice a n c) (marksI k0 n) w' ∧ Only g0 w w' := by
  have HN := Lib.hid hn
  have HO := Lib.hid h
  have HG0 := Lib.hid hg0
  clear hn h hg0
  go_enter Try.func22, Try.ntmps22
  go_wp2_with fail
  go_loopw [1, 5] (fun m i wr => ∃ k : Nat, k ≤ n ∧ i = .int .i64 k ∧ m = .int .i64 ((k0 + k : Nat) : Int) ∧ OwnJ B (.slice a n c) (marksI k0 k ++ l.drop k) wr ∧ Only g0 w wr) (fun _ i _ => n - (intOf i).toNat)
  case atStart => exact ⟨0, Nat.zero_le _, rfl, rfl, by simpa [marksI] using HO.out, Only.refl _ _⟩
  case round =>
    obtain ⟨k, hk, rfl, rfl, hown, hok⟩ := hrel
    by_cases hlt : k < n
    · have hlen : (marksI k0 k ++ l.drop k).length = n := by have := HN.out; simp [marksI_length]; omega
      obtain ⟨g, off, rfl, hc, hf, hB, hg⟩ := hown.at (k := k) (by rw [hlen]; exact hlt)
      have HL := Lib.hid hlen
      obtain ⟨old, hco⟩ : ∃ u, wr.cell? ⟨g, off + k, none⟩ = some u := ⟨_, hc⟩
      have HO2 := Lib.hid hown
      have HK2 := Lib.hid hok
      have HGG : Hid (g = g0) := HG0.out _ rfl
      have HST := Lib.hid (marksI_step k0 k l (by have := HN.out; omega))
      clear hc hlen hown hok
      go_wp2_with fail
      have R2 : OwnJ B (.slice (some ⟨g, off, none⟩) n c) (marksI k0 (k + 1) ++ l.drop (k + 1)) (wr.setCell ⟨g, off + k, none⟩ (.int .i64 ((k0 : Int) + (k : Int)))) := by
        rw [← HST.out]
        have := HO2.out.stored HL.out hlt (((k0 + k : Nat) : Int))
        rwa [show ((k0 + k : Nat) : Int) = (k0 : Int) + (k : Int) by simp] at this
      have HK3 := Lib.hid (HK2.out.setCell (p := ⟨g, off + k, none⟩) HGG.out (.int .i64 ((k0 : Int) + (k : Int))))
      go_roundw
      case rel => exact ⟨k + 1, by omega, by go_num, by go_num, R2, HK3.out⟩
      case measure => simp [intOf]; omega
    · obtain rfl : k = n := by omega
      have HF := Lib.hid hown
      go_wp2_with fail
      go_ret
      exact ⟨by first | rfl | exact ret_i (by omega), by have := HF.out; rwa [List.drop_of_length_le (by have := HN.out; omega), List.append_nil] at this, hok⟩

theorem marksI_getD (k0 : Nat) {n k : Nat} (h : k < n) : (marksI k0 n).getD k 0 = ((k0 + k : Nat) : Int) := by
  rw [List.getD_eq_getElem?_getD, List.getElem?_eq_getElem (by rw [marksI_length]; exact h), marksI_get]
  rfl

set_option maxHeartbeats 1000000 in
theorem heldIntS_row {a : Option Addr} {c : Nat} {n : Nat} {w : World} (k0 : Nat) (h : RowI w a (marksI k0 n)) (h1 : k0 + n ≤ 1000000000) :
    Calls Try.prog 23 #[.slice a n c, .int .i64 k0] w (Gives (.int .i64 ((k0 + n : Nat) : Int)) w) := by
  have HO := Lib.hid h
  clear h
  go_enter Try.func23, Try.ntmps23
  go_wp2_with fail
  go_loop [1, 5] (fun m i => ∃ k : Nat, k ≤ n ∧ i = .int .i64 k ∧ m = .int .i64 ((k0 + k : Nat) : Int)) (fun _ i => n - (intOf i).toNat)
  case atStart => exact ⟨0, Nat.zero_le _, rfl, rfl⟩
  case round =>
    obtain ⟨k, hk, rfl, rfl⟩ := hrel
    by_cases hlt : k < n
    · obtain ⟨g, off, rfl, hc⟩ := HO.out.at (k := k) (by rw [marksI_length]; exact hlt)
      rw [marksI_getD k0 hlt] at hc
      have hc' : w.cell? ⟨g, off + k, none⟩ = some (.int .i64 ((k0 : Int) + (k : Int))) := by rw [hc]; simp
      have txx : ((k0 : Int) + (k : Int) != (k0 : Int) + (k : Int)) = false := by simp
      clear hc
      go_wp2_with fail
      go_round
      case rel => exact ⟨k + 1, by omega, by go_num, by go_num⟩
      case measure => simp [intOf]; omega
    · obtain rfl : k = n := by omega
      go_wp2_with fail
      go_ret
      exact ⟨by first | rfl | exact ret_i (by omega), Below.refl _ _⟩

/-- A call that answers a summary whose rows are its own, the second one anywhere in its block. -/
def GivesRj (n1 n2 : Nat) (la ac : List Int) (w : World) (e : Ending) (w' : World) : Prop :=
  ∃ a1 c1 a2 c2, e = .returned (.agg #[.slice a1 n1 c1, .slice a2 n2 c2]) ∧ OwnI w.heap.size (.slice a1 n1 c1) la w' ∧ OwnJ w.heap.size (.slice a2 n2 c2) ac w' ∧ Apt a1 a2 ∧ Below w.heap.size w w'

theorem GivesRd.toJ {n1 n2 : Nat} {la ac : List Int} {w w' : World} {e : Ending} (hn : ac.length = n2) (h : GivesRd n1 n2 la ac w e w') : GivesRj n1 n2 la ac w e w' := by
  obtain ⟨a1, c1, a2, c2, rfl, o1, o2, hp, hb⟩ := h
  exact ⟨a1, c1, a2, c2, rfl, o1, o2.toJ hn, hp, hb⟩

end Go.Proofs.Ytgmlifhiefknbaa

namespace Go.Proofs.Ytgmlifhiefknbaa
open Go.RowKit Go.PlainAid

set_option linter.unusedVariables false

/-- A call that answers a row of numbers of its own, anywhere in its block. -/
def GivesJ (n : Nat) (l : List Int) (w : World) (e : Ending) (w' : World) : Prop :=
  ∃ a c, e = .returned (.slice a n c) ∧ n ≤ c ∧ OwnJ w.heap.size (.slice a n c) l w' ∧ Below w.heap.size w w'

/-- The same with two numbers behind the row. -/
def GivesV (n : Nat) (t : List Int × Int × Int) (w : World) (e : Ending) (w' : World) : Prop :=
  ∃ a c, e = .returned (.tuple #[.slice a n c, .int .i64 t.2.1, .int .i64 t.2.2]) ∧ n ≤ c ∧ OwnJ w.heap.size (.slice a n c) t.1 w' ∧ Below w.heap.size w w'

theorem apt_new {B n c n' c' : Nat} {a a' : Option Addr} {l l' : List Int} {w w' : World} (h : OwnJ B (.slice a n c) l w) (h' : OwnJ w.heap.size (.slice a' n' c') l' w') : Apt a a' := fun x y hx hy => by
  have h1 := (h.lo x hx).2
  have h2 := (h'.lo y hy).1
  omega

theorem OwnJ.pick {B n c : Nat} {a : Option Addr} {l : List Int} {w : World} (h : OwnJ B (.slice a n c) l w) : ∃ g, (∀ x, a = some x → x.block = g) ∧ B ≤ g ∧ ∀ k, k < w.heap.size → (∀ x, a = some x → x.block ≠ k) → k ≠ g := by
  have l1 := h.lo
  rcases a with _ | x
  · exact ⟨B + w.heap.size, (fun x h => by cases h), by omega, fun k hk _ => by omega⟩
  · exact ⟨x.block, (fun y h => by cases h; rfl), (l1 x rfl).1, fun k _ h => fun e => h x rfl e.symm⟩

theorem syns_le (w : List Int) : (syns w).length ≤ 11 := by unfold syns; split <;> simp

theorem dataI_le (w : List Int) : (dataI w).length ≤ 11 := by
  unfold dataI
  split
  · rename_i h
    have := h.2
    rw [List.length_drop]
    omega
  · simp

theorem corW_le (w : List Int) : (corW w).1.length ≤ 11 := by
  by_cases h : SymOk w 11
  · have h11 := h.2
    have : (corW w).1.length = w.length := by
      unfold corW
      rw [if_pos h]
      show (ints (correct (nats w)).1).length = _
      rw [ints_length]
      unfold correct
      split
      · exact nats_length w
      · split
        · exact nats_length w
        · show ((nats w).set _ _).length = _
          rw [List.length_set]; exact nats_length w
    omega
  · have : corW w = ([], 2, -1) := if_neg h
    rw [this]
    simp

def ISymbolsOk : Prop := ∀ (a : Option Addr) (n c : Nat) (l : List Int) (m : Int) (v : Bool) (hv : decide (SymOk l m) = v) (hn : l.length = n) (hl : n ≤ 3000000) (hc : n ≤ c) (w : World) (h : RowI w a l), Calls Try.prog 18 #[.slice a n c, .int .i64 m] w (Gives (.bool v) w)

def IWordOk : Prop := ∀ (a : Option Addr) (n c : Nat) (l : List Int) (v : Bool) (hv : decide (goodW l) = v) (hn : l.length = n) (hl : n ≤ 3000000) (hc : n ≤ c) (w : World) (h : RowI w a l), Calls Try.prog 15 #[.slice a n c] w (Gives (.bool v) w)

def ISyndromes : Prop := ∀ (a : Option Addr) (n c : Nat) (l : List Int) (k : Nat) (hk : k ≤ 11) (v : List Int) (hv : syns l = v) (hk2 : v.length = k) (hn : l.length = n) (hl : n ≤ 3000000) (hc : n ≤ c) (w : World) (h : RowI w a l), Calls Try.prog 21 #[.slice a n c] w (GivesJ k v w)

def IDataOf : Prop := ∀ (a : Option Addr) (n c : Nat) (l : List Int) (k : Nat) (hk : k ≤ 11) (v : List Int) (hv : dataI l = v) (hk2 : v.length = k) (hn : l.length = n) (hl : n ≤ 3000000) (hc : n ≤ c) (w : World) (h : RowI w a l), Calls Try.prog 26 #[.slice a n c] w (GivesJ k v w)

def ICorrectWord : Prop := ∀ (a : Option Addr) (n c : Nat) (l : List Int) (k : Nat) (hk : k ≤ 11) (v : List Int × Int × Int) (hv : corW l = v) (hk2 : v.1.length = k) (hn : l.length = n) (hl : n ≤ 3000000) (hc : n ≤ c) (w : World) (h : RowI w a l), Calls Try.prog 13 #[.slice a n c] w (GivesV k v w)

end Go.Proofs.Ytgmlifhiefknbaa

namespace Go.Proofs.Ytgmlifhiefknbaa
open Go.RowKit Go.PlainAid

set_option linter.unusedVariables false

theorem symOk_no {l : List Int} {m : Int} {k : Nat} (hk : k < l.length) (h : ¬ El (l.getD k 0)) : decide (SymOk l m) = false :=
  decide_eq_false fun q => h (el_getD q.1 hk)

theorem symOk_all {l : List Int} {m : Int} (h : Els l) : decide (SymOk l m) = ((l.length : Int) == m) := by
  by_cases e : (l.length : Int) = m
  · rw [decide_eq_true (show SymOk l m from ⟨h, e⟩)]; simpa using e
  · rw [decide_eq_false (fun q : SymOk l m => e q.2)]; simpa using e

set_option maxHeartbeats 1000000 in
set_option maxRecDepth 100000 in
theorem specSymbolsOk_is {a : Option Addr} {c n : Nat} {l : List Int} {m : Int} (hn : l.length = n) {w : World} (h : RowI w a l) (v : Bool) (hv : decide (SymOk l m) = v) (hl : (n : Int) ≤ 9223372036854775807) :
    Calls Try.prog 16 #[.slice a n c, .int .i64 m] w (Says (.bool v) w) := by
  have HN := Lib.hid hn
  have HA := Lib.hid h
  have HV := Lib.hid hv
  clear hn h hv
  go_enter Try.func16, Try.ntmps16
  go_wp2_with fail
  go_loopw [5] (fun i wr => ∃ k : Nat, k ≤ n ∧ i = .int .i64 k ∧ Els (l.take k) ∧ wr = w) (fun i _ => n - (intOf i).toNat)
  case atStart => exact ⟨0, Nat.zero_le _, rfl, (fun v hv => by cases hv), rfl⟩
  case round =>
    obtain ⟨k, hk, rfl, hels, rfl⟩ := hrel
    have HE := Lib.hid hels
    clear hels
    by_cases hlt : k < n
    · obtain ⟨ga, oa, rfl, hca⟩ := HA.out.at (k := k) (by rw [HN.out]; exact hlt)
      obtain ⟨x, hx⟩ : ∃ x, l.getD k 0 = x := ⟨_, rfl⟩
      rw [hx] at hca
      by_cases he : El x
      · have HS := Lib.hid (els_take (by rw [HN.out]; exact hlt) HE.out (hx ▸ he))
        have KA := Lib.hid (decide_eq_true he)
        clear hx he
        go_wp2_with fail
        refine (specIs_is x true KA.out _).mono ?_
        rintro e w2 ⟨rfl, rfl⟩
        go_wp2_with fail
        go_roundw
        case rel => exact ⟨k + 1, by omega, by go_num, HS.out, by trivial⟩
        case measure => simp [intOf]; omega
      · have HF : Hid (false = v) := by show _ = _; rw [← HV.out]; exact (symOk_no (by rw [HN.out]; exact hlt) (hx ▸ he)).symm
        have KA := Lib.hid (decide_eq_false he)
        clear hx he
        go_wp2_with fail
        refine (specIs_is x false KA.out _).mono ?_
        rintro e w2 ⟨rfl, rfl⟩
        go_wp2_with fail
        go_ret
        exact ⟨ret_b HF.out, rfl⟩
    · obtain rfl : k = n := by omega
      have HF : Hid (((k : Int) == m) = v) := by
        show _ = _
        rw [← HV.out, symOk_all (by have := HE.out; rwa [List.take_of_length_le (by rw [HN.out]; omega)] at this), HN.out]
      go_wp2_with fail
      go_ret
      exact ⟨ret_b HF.out, rfl⟩

/-- The three sums behind so many symbols, and so many of the next one. -/
def sumsV (u : List Nat) (k t : Nat) : List Int := [((syn 0 (u.take (if 0 < t then k + 1 else k)) : Nat) : Int), ((syn 1 (u.take (if 1 < t then k + 1 else k)) : Nat) : Int), ((syn 2 (u.take (if 2 < t then k + 1 else k)) : Nat) : Int)]

theorem sumsV_length (u : List Nat) (k t : Nat) : (sumsV u k t).length = 3 := rfl

theorem sumsV_next (u : List Nat) (k : Nat) : sumsV u k 3 = sumsV u (k + 1) 0 := by simp [sumsV]

theorem sumsV_getD (u : List Nat) (k : Nat) {t : Nat} (ht : t < 3) : (sumsV u k t).getD t 0 = ((syn t (u.take k) : Nat) : Int) := by
  match t, ht with
  | 0, _ => simp [sumsV]
  | 1, _ => simp [sumsV]
  | 2, _ => simp [sumsV]

theorem sumsV_set (u : List Nat) (k : Nat) {t : Nat} (ht : t < 3) (hk : k < u.length) :
    (sumsV u k t).set t (((syn t (u.take k)) ^^^ gm u[k] (cw t k) : Nat) : Int) = sumsV u k (t + 1) := by
  rw [← syn_take t hk]
  match t, ht with
  | 0, _ => simp [sumsV]
  | 1, _ => simp [sumsV]
  | 2, _ => simp [sumsV]

set_option maxHeartbeats 2000000 in
set_option maxRecDepth 100000 in
theorem specSyndromes_is {a : Option Addr} {c n : Nat} {l : List Int} (hn : l.length = n) {w : World} (h : RowI w a l) (v : List Int) (hv : syns l = v) (hl : (n : Int) ≤ 9223372036854775807) :
    Calls Try.prog 20 #[.slice a n c] w (GivesI v w) := by
  have HN := Lib.hid hn
  have HA := Lib.hid h
  have HV := Lib.hid hv
  clear hn h hv
  by_cases hok : SymOk l 11
  case neg =>
    have KA := Lib.hid (decide_eq_false hok)
    obtain rfl : v = [] := by rw [← HV.out]; exact if_neg hok
    clear hok
    go_enter Try.func20, Try.ntmps20
    go_wp2_with fail
    refine (specSymbolsOk_is HN.out HA.out false KA.out hl).mono ?_
    rintro e w2 ⟨rfl, rfl⟩
    go_wp2_with fail
    go_ret
    exact givesI_empty rfl (Nat.le_refl _) (by show (w.heap.push _)[w.heap.size]? = _; simp) ((Below.refl _ _).alloc (Nat.le_refl _) _)
  have KA := Lib.hid (decide_eq_true hok)
  obtain rfl : n = 11 := by have := hok.2; have := HN.out; omega
  obtain ⟨u, hu⟩ : ∃ u, nats l = u := ⟨_, rfl⟩
  have HU := Lib.hid hu
  have HLT : Hid (Lt16 u) := by show Lt16 u; rw [← hu]; exact nats_lt hok.1
  have hul : u.length = 11 := by rw [← hu, nats_length]; exact HN.out
  have HUL := Lib.hid hul
  have HE := Lib.hid hok.1
  have HF : Hid (sumsV u 11 0 = v) := by
    show _ = _
    rw [← HV.out, syns, if_pos hok, hu, sumsV]
    simp [List.take_of_length_le (Nat.le_of_eq hul)]
  obtain ⟨i0, hi, hz0, hz1, hz2⟩ := info_parts infoI
  clear hok hu hul
  go_enter Try.func20, Try.ntmps20
  go_wp2_with fail
  refine (specSymbolsOk_is HN.out HA.out true KA.out hl).mono ?_
  rintro e w2 ⟨rfl, rfl⟩
  go_wp2_with (at_make; refine wpList_make_full _ rfl _ _ 24 rfl w.heap.size 3 i0 (.int .i64 0) 1 Try.underlying24 hi hz0 hz1 _ _ _ _ 3 rfl rfl rfl rfl (by rw [hz2]; omega) (by unfold maxLen; omega) (Nat.le_refl _) ?_)
  intro w1 hown hgr
  have hb1 : Below w.heap.size w w1 := (Below.refl _ _).grown hgr (Nat.le_refl _) (fun k hk => by cases hk)
  have HO1 : Hid (OwnI w.heap.size (.slice (some ⟨w.heap.size, 0, none⟩) 3 3) (sumsV u 0 0) w1) := by
    show OwnI _ _ _ _
    unfold OwnI
    rw [made_one] at hown
    exact hown
  have HB1 := Lib.hid hb1
  clear hgr hown hb1
  go_wp2_with fail
  go_loopw [4] (fun i wr => ∃ k : Nat, k ≤ 11 ∧ i = .int .i64 k ∧ OwnI w.heap.size (.slice (some ⟨w.heap.size, 0, none⟩) 3 3) (sumsV u k 0) wr ∧ Below w.heap.size w wr) (fun i _ => 11 - (intOf i).toNat)
  case atStart => exact ⟨0, Nat.zero_le _, rfl, HO1.out, HB1.out⟩
  case round =>
    obtain ⟨k, hk, rfl, hown, hbr⟩ := hrel
    have HO := Lib.hid hown
    have HBR := Lib.hid hbr
    clear hown hbr
    by_cases hlt : k < 11
    · have HP : Hid (gfPow 2 (k : Int) = ((gp 2 k : Nat) : Int)) := gfPow_nat (a := 2) (by omega) (by omega)
      obtain ⟨y, hy⟩ : ∃ y, gp 2 k = y := ⟨_, rfl⟩
      rw [hy] at HP
      have HY := Lib.hid hy
      clear hy
      go_wp2_with fail
      refine (specGfPow_is 2 (k : Int) _ HP.out _).mono ?_
      rintro e w3 ⟨rfl, rfl⟩
      go_wp2_with fail
      go_loopw [5, 7] (fun f j wi => ∃ t : Nat, t ≤ 3 ∧ j = .int .i64 t ∧ f = .int .i64 ((gp y t : Nat) : Int) ∧ OwnI w.heap.size (.slice (some ⟨w.heap.size, 0, none⟩) 3 3) (sumsV u k t) wi ∧ Below w.heap.size w wi) (fun _ j _ => 3 - (intOf j).toNat)
      case atStart => exact ⟨0, Nat.zero_le _, rfl, rfl, HO.out, HBR.out⟩
      case round =>
        obtain ⟨t, ht, rfl, rfl, hown, hbi⟩ := hrel
        have HI := Lib.hid hown
        have HBI := Lib.hid hbi
        clear hown hbi
        by_cases hlt3 : t < 3
        · obtain ⟨g, hg, hc, hf, hB, hgs⟩ := HI.out.at (k := t) (by rw [sumsV_length]; exact hlt3)
          obtain rfl : w.heap.size = g := by simpa using hg
          obtain ⟨ga, oa, rfl, hca⟩ := (HA.out.below HBI.out).at (k := k) (by rw [HN.out]; exact hlt)
          have hku : k < u.length := by rw [HUL.out]; exact hlt
          obtain ⟨X, hX⟩ : ∃ X, u[k] = X := ⟨_, rfl⟩
          obtain ⟨S, hS⟩ : ∃ S, syn t (u.take k) = S := ⟨_, rfl⟩
          obtain ⟨F, hF⟩ : ∃ F, gp y t = F := ⟨_, rfl⟩
          have hy : y < 16 := by rw [← HY.out]; exact gp_lt (by omega) k
          have hXl : X < 16 := by rw [← hX]; exact HLT.out _ (List.getElem_mem hku)
          have hSl : S < 16 := by rw [← hS]; exact syn_lt t fun v hv => HLT.out v (List.mem_of_mem_take hv)
          have hFl : F < 16 := by rw [← hF]; exact gp_lt hy t
          have hcX : wr.cell? ⟨ga, oa + k, none⟩ = some (.int .i64 (X : Int)) := by
            rw [hca, nats_getD HE.out (by rw [HN.out]; exact hlt), HU.out, List.getD_eq_getElem?_getD, List.getElem?_eq_getElem hku, hX]
            rfl
          have hcS : wr.cell? ⟨w.heap.size, t, none⟩ = some (.int .i64 (S : Int)) := by
            rw [hc, ← hS, ← sumsV_getD u k hlt3, List.getD_eq_getElem?_getD, List.getElem?_eq_getElem (by rw [sumsV_length]; exact hlt3)]
            rfl
          have HM : Hid (gfMul (X : Int) (F : Int) = ((gm X F : Nat) : Int)) := gfMul_nat hXl hFl
          have HM2 : Hid (gfMul (F : Int) (y : Int) = ((gm F y : Nat) : Int)) := gfMul_nat hFl hy
          have hG : gm X F < 16 := gm_lt hXl hFl
          obtain ⟨G, hGe⟩ : ∃ G, gm X F = G := ⟨_, rfl⟩
          rw [hGe] at HM hG
          have hxor : bits .xor .i64 (S : Int) (G : Int) = ((S ^^^ G : Nat) : Int) := i64_xor_nat S G (by omega) (by omega)
          have HSET : Hid ((sumsV u k t).set t ((S ^^^ G : Nat) : Int) = sumsV u k (t + 1)) := by
            show _ = _
            rw [← sumsV_set u k hlt3 hku, hX, hS, ← hGe, ← hF]
            show _ = List.set _ _ ((S ^^^ gm X (gp (gp 2 k) t) : Nat) : Int)
            rw [HY.out]
          have HNX : Hid (gp y (t + 1) = gm F y) := by show gm (gp y t) y = _; rw [hF]
          rw [hF]
          have z0 := fun q : Later wr => q.cell hcX
          have z1 := fun q : Later wr => q.cell hcS
          clear hc hf hca hg hX hS hF hGe hXl hSl hFl hG hB
          go_wp2_with fail
          refine wp_region_later_tail 14 (by kernel_rfl) (by kernel_rfl) ?_
          simp only [List.take_succ_cons, List.take_zero, List.drop_succ_cons, List.drop_zero]
          repeat (go_big_quiet_step (first | (go_at_call 28; exact Gives.later_same _ (specGfMul_is _ _ _ HM.out _))))
          refine wpQuiet_nil ?_
          rintro w3 ⟨zz, hz⟩
          have hb3 : Below wr.heap.size wr w3 := hz ▸ zz.ok
          have O3 := Lib.hid (HI.out.below hb3)
          have HB3 : Hid (Below w.heap.size w w3) := HBI.out.trans (hb3.mono (by omega))
          obtain ⟨g', hg', hc3, hf3, _, _⟩ := O3.out.at (k := t) (by rw [sumsV_length]; exact hlt3)
          obtain rfl : w.heap.size = g' := by simpa using hg'
          obtain ⟨old, hco⟩ : ∃ u, w3.cell? ⟨w.heap.size, t, none⟩ = some u := ⟨_, hc3⟩
          clear z0 z1 hz zz hb3 hcX hcS hc3 hg'
          go_wp2_with fail
          refine (specGfMul_is (F : Int) (y : Int) _ HM2.out _).mono ?_
          rintro e w4 ⟨rfl, rfl⟩
          have R2 : Hid (OwnI w.heap.size (.slice (some ⟨w.heap.size, 0, none⟩) 3 3) (sumsV u k (t + 1)) (w3.setCell ⟨w.heap.size, t, none⟩ (.int .i64 ((S ^^^ G : Nat) : Int)))) := by
            show OwnI _ _ _ _
            rw [← HSET.out]
            exact O3.out.stored (sumsV_length u k t) t _
          have HB4 : Hid (Below w.heap.size w (w3.setCell ⟨w.heap.size, t, none⟩ (.int .i64 ((S ^^^ G : Nat) : Int)))) := HB3.out.setCell (Nat.le_refl _) _
          go_wp2_with fail
          go_roundw
          case rel => exact ⟨t + 1, by omega, by go_num, by rw [HNX.out], R2.out, HB4.out⟩
          case measure => simp [intOf]; omega
        · obtain rfl : t = 3 := by omega
          go_wp2_with fail
          go_roundw
          case rel => exact ⟨k + 1, by omega, by go_num, by rw [← sumsV_next]; exact HI.out, HBI.out⟩
          case measure => simp [intOf]; omega
    · obtain rfl : k = 11 := by omega
      go_wp2_with fail
      go_ret
      exact ⟨some ⟨w.heap.size, 0, none⟩, 3, by rw [← HF.out]; rfl, by rw [← HF.out]; exact HO.out, HBR.out⟩

end Go.Proofs.Ytgmlifhiefknbaa

namespace Go.Proofs.Ytgmlifhiefknbaa
open Go.RowKit Go.PlainAid

set_option linter.unusedVariables false

set_option maxHeartbeats 1000000 in
set_option maxRecDepth 100000 in
theorem specZero_is {a : Option Addr} {c : Nat} {x y z : Int} {w : World} (h : RowI w a [x, y, z]) (v : Bool) (hv : decide (x = 0 ∧ y = 0 ∧ z = 0) = v) :
    Calls Try.prog 42 #[.slice a 3 c] w (Says (.bool v) w) := by
  rcases h with h0 | ⟨g, o, rfl, hc⟩
  · cases h0
  have c0 : w.cell? ⟨g, o + 0, none⟩ = some (.int .i64 x) := hc 0 (by simp)
  have c0' : w.cell? ⟨g, o, none⟩ = some (.int .i64 x) := hc 0 (by simp)
  have c1 : w.cell? ⟨g, o + 1, none⟩ = some (.int .i64 y) := hc 1 (by simp)
  have c2 : w.cell? ⟨g, o + 2, none⟩ = some (.int .i64 z) := hc 2 (by simp)
  clear hc
  have HV := Lib.hid hv
  clear hv
  by_cases hx : x = 0
  · by_cases hy : y = 0
    · have tz : ((z == 0) : Bool) = v := by rw [← HV.out]; subst hx hy; simp; rfl
      subst hx hy
      clear HV
      go_enter Try.func42, Try.ntmps42
      go_wp2_with fail
      go_ret
      exact ⟨rfl, rfl⟩
    · have ty : ((y == 0) : Bool) = false := by simpa using hy
      obtain rfl : v = false := by rw [← HV.out]; exact decide_eq_false fun q => hy q.2.1
      subst hx
      clear HV hy
      go_enter Try.func42, Try.ntmps42
      go_wp2_with fail
      go_ret
      exact ⟨rfl, rfl⟩
  · have tx : ((x == 0) : Bool) = false := by simpa using hx
    obtain rfl : v = false := by rw [← HV.out]; exact decide_eq_false fun q => hx q.1
    clear HV hx
    go_enter Try.func42, Try.ntmps42
    go_wp2_with fail
    go_ret
    exact ⟨rfl, rfl⟩

theorem zero_syns {u : List Nat} : decide (((syn 0 u : Nat) : Int) = 0 ∧ ((syn 1 u : Nat) : Int) = 0 ∧ ((syn 2 u : Nat) : Int) = 0) = decide (Zero3 u) := by
  apply decide_eq_decide.mpr
  unfold Zero3
  omega

set_option maxHeartbeats 1000000 in
set_option maxRecDepth 100000 in
theorem specWordOk_is {a : Option Addr} {c n : Nat} {l : List Int} (hn : l.length = n) {w : World} (h : RowI w a l) (v : Bool) (hv : decide (goodW l) = v) (hl : (n : Int) ≤ 9223372036854775807) :
    Calls Try.prog 24 #[.slice a n c] w (Gives (.bool v) w) := by
  have HN := Lib.hid hn
  have HA := Lib.hid h
  have HV := Lib.hid hv
  clear hn h hv
  by_cases hok : SymOk l 11
  case neg =>
    have KA := Lib.hid (decide_eq_false hok)
    obtain rfl : v = false := by rw [← HV.out]; exact decide_eq_false fun q => hok q.1
    clear hok
    go_enter Try.func24, Try.ntmps24
    go_wp2_with fail
    refine (specSymbolsOk_is HN.out HA.out false KA.out hl).mono ?_
    rintro e w2 ⟨rfl, rfl⟩
    go_wp2_with fail
    go_ret
    exact ⟨rfl, Below.refl _ _⟩
  have KA := Lib.hid (decide_eq_true hok)
  have HS : Hid (syns l = [((syn 0 (nats l) : Nat) : Int), ((syn 1 (nats l) : Nat) : Int), ((syn 2 (nats l) : Nat) : Int)]) := by show _ = _; exact if_pos hok
  have HZ : Hid (decide (Zero3 (nats l)) = v) := by
    show _ = _
    rw [← HV.out]
    exact decide_eq_decide.mpr ⟨fun q => ⟨hok, q⟩, fun q => q.2⟩
  clear hok
  go_enter Try.func24, Try.ntmps24
  go_wp2_with fail
  refine (specSymbolsOk_is HN.out HA.out true KA.out hl).mono ?_
  rintro e w2 ⟨rfl, rfl⟩
  go_wp2_with fail
  refine (specSyndromes_is HN.out HA.out _ HS.out hl).mono ?_
  rintro e w3 ⟨b, cap, rfl, hown, hb⟩
  have HB := Lib.hid hb
  have HR := Lib.hid hown.row
  clear hown hb
  go_wp2_with fail
  refine (specZero_is HR.out v (zero_syns.trans HZ.out)).mono ?_
  rintro e w4 ⟨rfl, rfl⟩
  go_wp2_with fail
  go_ret
  exact ⟨rfl, HB.out⟩

theorem row_drop {w : World} {g o : Nat} {l : List Int} (k : Nat) (h : RowI w (some ⟨g, o, none⟩) l) : RowI w (some ⟨g, o + k, none⟩) (l.drop k) := by
  rcases h with h | ⟨g', o', he, hc⟩
  · left; rw [h]; simp
  · cases he
    refine .inr ⟨g, o + k, rfl, fun i hi => ?_⟩
    rw [List.length_drop] at hi
    have := hc (k + i) (by omega)
    rw [Nat.add_assoc, this]
    simp [List.getD_eq_getElem?_getD]

set_option maxHeartbeats 1000000 in
set_option maxRecDepth 100000 in
theorem specDataOf_is {a : Option Addr} {c n : Nat} {l : List Int} (hn : l.length = n) (hcap : n ≤ c) {w : World} (h : RowI w a l) (v : List Int) (hv : dataI l = v) (hl : (n : Int) ≤ 9223372036854775807) :
    Calls Try.prog 25 #[.slice a n c] w (GivesI v w) := by
  have HN := Lib.hid hn
  have HA := Lib.hid h
  have HV := Lib.hid hv
  clear hn h hv
  by_cases hok : SymOk l 11
  case neg =>
    have KA := Lib.hid (decide_eq_false hok)
    obtain rfl : v = [] := by rw [← HV.out]; exact if_neg hok
    clear hok
    go_enter Try.func25, Try.ntmps25
    go_wp2_with fail
    refine (specSymbolsOk_is HN.out HA.out false KA.out hl).mono ?_
    rintro e w2 ⟨rfl, rfl⟩
    go_wp2_with fail
    go_ret
    exact givesI_empty rfl (Nat.le_refl _) (by show (w.heap.push _)[w.heap.size]? = _; simp) ((Below.refl _ _).alloc (Nat.le_refl _) _)
  have KA := Lib.hid (decide_eq_true hok)
  obtain rfl : n = 11 := by have := hok.2; have := HN.out; omega
  obtain rfl : v = l.drop 3 := by rw [← HV.out]; exact if_pos hok
  obtain ⟨g, o, rfl, _⟩ := HA.out.at (k := 0) (by rw [HN.out]; omega)
  have HD := Lib.hid (row_drop 3 HA.out)
  have HDL : Hid ((l.drop 3).length = 8) := by show _ = _; rw [List.length_drop, HN.out]
  clear hok HV
  go_enter Try.func25, Try.ntmps25
  go_wp2_with fail
  refine (specSymbolsOk_is HN.out HA.out true KA.out hl).mono ?_
  rintro e w2 ⟨rfl, rfl⟩
  have hb3 : Below w.heap.size w (w.alloc (.cells #[] 3)) := (Below.refl _ _).alloc (Nat.le_refl _) _
  have own3 : OwnI w.heap.size (.slice (some ⟨w.heap.size, 0, none⟩) 0 0) [] (w.alloc (.cells #[] 3)) := World.ownsRow_made (base := w.heap.size) (e := 3) (size := 1) w #[] 0 (Nat.le_refl _) (by decide) rfl
  have HR3 := Lib.hid (HD.out.below hb3)
  have hS3 : w.heap.size ≤ (w.alloc (.cells #[] 3)).heap.size := by simp
  go_wp2_with (at_builtin; refine append_int rfl _ _ rfl w.heap.size _ 0 [] rfl own3 rfl (some ⟨g, o + 3, none⟩) 8 (c - 3) (l.drop 3) rfl HDL.out (fun h => by cases h) HR3.out (by omega) hS3 ?_)
  intro v' w4 hown4 hgrow _
  (try rw [List.nil_append] at hown4)
  have HB4 : Hid (Below w.heap.size w w4) := hb3.grown hgrow hS3 (fun j hj => by have := Option.some.inj hj; have h2 : w.heap.size = j := this; omega)
  obtain ⟨aa, cc, hv⟩ := hown4.shape
  subst hv
  have HO4 := Lib.hid hown4
  clear hown4 hgrow own3 hb3
  go_wp2_with fail
  go_ret
  exact ⟨aa, cc, rfl, HO4.out, HB4.out⟩

end Go.Proofs.Ytgmlifhiefknbaa

namespace Go.Proofs.Ytgmlifhiefknbaa
open Go.RowKit Go.PlainAid

set_option linter.unusedVariables false

theorem says_gives {P : Program} {f : FuncId} {args : Array Value} {w : World} {v : Value} (h : Calls P f args w (Says v w)) : Calls P f args w (Gives v w) :=
  h.mono fun _ _ h => ⟨h.1, by rw [h.2]; exact Below.refl _ _⟩

theorem OwnI.cap_le {B n c : Nat} {a : Option Addr} {l : List Int} {w : World} (h : OwnI B (.slice a n c) l w) (hn : l.length = n) : n ≤ c := by
  rcases h.2 with ⟨hv, h0⟩ | ⟨g, cap, cur, hv, hB, hh, h1, _, _, _⟩
  · cases hv; omega
  · cases hv; simp_all

set_option maxHeartbeats 8000000 in
set_option maxRecDepth 100000 in
theorem exSymbolsOk_of (IMPL : Hid ISymbolsOk) (a0 : Option Addr) (len cap : Nat) (zs : List Int) (m : Int) (w : World) (hr : IsRow .i64 w a0 len cap zs) :
    Calls Try.prog 4 #[.slice a0 len cap, .int .i64 m] w fun e w' => e = .returned (.bool true) ∧ Below w.heap.size w w' := by
  obtain ⟨hr0, hz⟩ := isRow_row hr
  have hcap : len ≤ cap := by
    rcases hr with ⟨_, h1, h2, _⟩ | ⟨x, _, h1, _⟩
    · omega
    · exact h1
  generalize zs.take len = l at hr0 hz
  clear hr
  obtain ⟨v, hv⟩ : ∃ v, decide (SymOk l m) = v := ⟨_, rfl⟩
  have HV := Lib.hid hv
  have tvv : (v != v) = false := by simp
  clear hv
  by_cases hbig : (1048576 : Int) < (len : Int)
  · go_enter Try.func4, Try.ntmps4
    go_wp2
    go_ret
    exact ⟨rfl, Below.refl _ _⟩
  have HZ := Lib.hid hz
  have HR0 := Lib.hid hr0
  have HL : Hid (len ≤ 3000000) := by show len ≤ 3000000; omega
  have HL2 : Hid ((len : Int) ≤ 9223372036854775807) := by show _ ≤ _; omega
  clear hz hr0
  go_enter Try.func4, Try.ntmps4
  have HB0 : Hid (Below w.heap.size w w) := Below.refl _ _
  have SZ0 : Hid (w.heap.size ≤ w.heap.size) := HB0.out.size
  go_wp2_with fail
  refine (toIntS_is a0 len cap l HZ.out (by omega) _ (HR0.out.below HB0.out)).mono ?_
  rintro e w1 ⟨Aa, Ac, rfl, own1, hb1⟩
  rw [HZ.out] at own1
  try rw [HZ.out]
  have A1 : Hid (OwnJ w.heap.size (.slice Aa len Ac) l w1) := own1.toJ HZ.out
  have hcA : Hid (len ≤ Ac) := own1.cap_le HZ.out
  have HB1 : Hid (Below w.heap.size w w1) := HB0.out.trans (hb1.mono HB0.out.size)
  clear own1 hb1 HB0
  go_wp2_with fail
  refine (says_gives (specSymbolsOk_is HZ.out A1.out.row v HV.out HL2.out)).mono ?_
  rintro e w2 ⟨rfl, hb2⟩
  have HB2 : Hid (Below w.heap.size w w2) := HB1.out.trans (hb2.mono HB1.out.size)
  have A2 : Hid (OwnJ w.heap.size (.slice Aa len Ac) l w2) := A1.out.below hb2
  clear A1
  clear hb2 HB1
  clear A2
  have SZ2 : Hid (w.heap.size ≤ w2.heap.size) := HB2.out.size
  go_wp2_with fail
  refine (toIntS_is a0 len cap l HZ.out (by omega) _ (HR0.out.below HB2.out)).mono ?_
  rintro e w3 ⟨Xa, Xc, rfl, own3, hb3⟩
  rw [HZ.out] at own3
  try rw [HZ.out]
  have X3 : Hid (OwnJ w2.heap.size (.slice Xa len Xc) l w3) := own3.toJ HZ.out
  have hcX : Hid (len ≤ Xc) := own3.cap_le HZ.out
  have HB3 : Hid (Below w.heap.size w w3) := HB2.out.trans (hb3.mono HB2.out.size)
  clear own3 hb3 HB2
  go_wp2_with fail
  refine (IMPL.out Xa len Xc l m v HV.out HZ.out HL.out hcX.out _ X3.out.row).mono ?_
  rintro e w4 ⟨rfl, hb4⟩
  have HB4 : Hid (Below w.heap.size w w4) := HB3.out.trans (hb4.mono HB3.out.size)
  have X4 : Hid (OwnJ w2.heap.size (.slice Xa len Xc) l w4) := X3.out.below hb4
  clear X3
  clear hb4 HB3
  have SZ4 : Hid (w.heap.size ≤ w4.heap.size) := HB4.out.size
  go_wp2_with fail
  refine (toIntS_is a0 len cap l HZ.out (by omega) _ (HR0.out.below HB4.out)).mono ?_
  rintro e w5 ⟨Ta, Tc, rfl, own5, hb5⟩
  rw [HZ.out] at own5
  try rw [HZ.out]
  have T5 : Hid (OwnJ w4.heap.size (.slice Ta len Tc) l w5) := own5.toJ HZ.out
  have hcT : Hid (len ≤ Tc) := own5.cap_le HZ.out
  have PXT : Hid (Apt Xa Ta) := apt_new X4.out T5.out
  have HB5 : Hid (Below w.heap.size w w5) := HB4.out.trans (hb5.mono HB4.out.size)
  have X5 : Hid (OwnJ w2.heap.size (.slice Xa len Xc) l w5) := X4.out.below hb5
  clear X4
  clear own5 hb5 HB4
  go_wp2_with fail
  refine (eqIntS_row HZ.out X5.out.row T5.out.row HL2.out).mono ?_
  rintro e w6 ⟨rfl, hb6⟩
  have HB6 : Hid (Below w.heap.size w w6) := HB5.out.trans (hb6.mono HB5.out.size)
  have X6 : Hid (OwnJ w2.heap.size (.slice Xa len Xc) l w6) := X5.out.below hb6
  have T6 : Hid (OwnJ w4.heap.size (.slice Ta len Tc) l w6) := T5.out.below hb6
  clear X5 T5
  clear hb6 HB5
  go_wp2_with fail
  go_ret
  exact ⟨rfl, HB6.out⟩

set_option maxHeartbeats 8000000 in
set_option maxRecDepth 100000 in
theorem exWordOk_of (IMPL : Hid IWordOk) (a0 : Option Addr) (len cap : Nat) (zs : List Int) (w : World) (hr : IsRow .i64 w a0 len cap zs) :
    Calls Try.prog 6 #[.slice a0 len cap] w fun e w' => e = .returned (.bool true) ∧ Below w.heap.size w w' := by
  obtain ⟨hr0, hz⟩ := isRow_row hr
  have hcap : len ≤ cap := by
    rcases hr with ⟨_, h1, h2, _⟩ | ⟨x, _, h1, _⟩
    · omega
    · exact h1
  generalize zs.take len = l at hr0 hz
  clear hr
  obtain ⟨v, hv⟩ : ∃ v, decide (goodW l) = v := ⟨_, rfl⟩
  have HV := Lib.hid hv
  have tvv : (v != v) = false := by simp
  clear hv
  by_cases hbig : (1048576 : Int) < (len : Int)
  · go_enter Try.func6, Try.ntmps6
    go_wp2
    go_ret
    exact ⟨rfl, Below.refl _ _⟩
  have HZ := Lib.hid hz
  have HR0 := Lib.hid hr0
  have HL : Hid (len ≤ 3000000) := by show len ≤ 3000000; omega
  have HL2 : Hid ((len : Int) ≤ 9223372036854775807) := by show _ ≤ _; omega
  clear hz hr0
  go_enter Try.func6, Try.ntmps6
  have HB0 : Hid (Below w.heap.size w w) := Below.refl _ _
  have SZ0 : Hid (w.heap.size ≤ w.heap.size) := HB0.out.size
  go_wp2_with fail
  refine (toIntS_is a0 len cap l HZ.out (by omega) _ (HR0.out.below HB0.out)).mono ?_
  rintro e w1 ⟨Aa, Ac, rfl, own1, hb1⟩
  rw [HZ.out] at own1
  try rw [HZ.out]
  have A1 : Hid (OwnJ w.heap.size (.slice Aa len Ac) l w1) := own1.toJ HZ.out
  have hcA : Hid (len ≤ Ac) := own1.cap_le HZ.out
  have HB1 : Hid (Below w.heap.size w w1) := HB0.out.trans (hb1.mono HB0.out.size)
  clear own1 hb1 HB0
  go_wp2_with fail
  refine (specWordOk_is HZ.out A1.out.row v HV.out HL2.out).mono ?_
  rintro e w2 ⟨rfl, hb2⟩
  have HB2 : Hid (Below w.heap.size w w2) := HB1.out.trans (hb2.mono HB1.out.size)
  have A2 : Hid (OwnJ w.heap.size (.slice Aa len Ac) l w2) := A1.out.below hb2
  clear A1
  clear hb2 HB1
  clear A2
  have SZ2 : Hid (w.heap.size ≤ w2.heap.size) := HB2.out.size
  go_wp2_with fail
  refine (toIntS_is a0 len cap l HZ.out (by omega) _ (HR0.out.below HB2.out)).mono ?_
  rintro e w3 ⟨Xa, Xc, rfl, own3, hb3⟩
  rw [HZ.out] at own3
  try rw [HZ.out]
  have X3 : Hid (OwnJ w2.heap.size (.slice Xa len Xc) l w3) := own3.toJ HZ.out
  have hcX : Hid (len ≤ Xc) := own3.cap_le HZ.out
  have HB3 : Hid (Below w.heap.size w w3) := HB2.out.trans (hb3.mono HB2.out.size)
  clear own3 hb3 HB2
  go_wp2_with fail
  refine (IMPL.out Xa len Xc l v HV.out HZ.out HL.out hcX.out _ X3.out.row).mono ?_
  rintro e w4 ⟨rfl, hb4⟩
  have HB4 : Hid (Below w.heap.size w w4) := HB3.out.trans (hb4.mono HB3.out.size)
  have X4 : Hid (OwnJ w2.heap.size (.slice Xa len Xc) l w4) := X3.out.below hb4
  clear X3
  clear hb4 HB3
  have SZ4 : Hid (w.heap.size ≤ w4.heap.size) := HB4.out.size
  go_wp2_with fail
  refine (toIntS_is a0 len cap l HZ.out (by omega) _ (HR0.out.below HB4.out)).mono ?_
  rintro e w5 ⟨Ta, Tc, rfl, own5, hb5⟩
  rw [HZ.out] at own5
  try rw [HZ.out]
  have T5 : Hid (OwnJ w4.heap.size (.slice Ta len Tc) l w5) := own5.toJ HZ.out
  have hcT : Hid (len ≤ Tc) := own5.cap_le HZ.out
  have PXT : Hid (Apt Xa Ta) := apt_new X4.out T5.out
  have HB5 : Hid (Below w.heap.size w w5) := HB4.out.trans (hb5.mono HB4.out.size)
  have X5 : Hid (OwnJ w2.heap.size (.slice Xa len Xc) l w5) := X4.out.below hb5
  clear X4
  clear own5 hb5 HB4
  go_wp2_with fail
  refine (eqIntS_row HZ.out X5.out.row T5.out.row HL2.out).mono ?_
  rintro e w6 ⟨rfl, hb6⟩
  have HB6 : Hid (Below w.heap.size w w6) := HB5.out.trans (hb6.mono HB5.out.size)
  have X6 : Hid (OwnJ w2.heap.size (.slice Xa len Xc) l w6) := X5.out.below hb6
  have T6 : Hid (OwnJ w4.heap.size (.slice Ta len Tc) l w6) := T5.out.below hb6
  clear X5 T5
  clear hb6 HB5
  go_wp2_with fail
  go_ret
  exact ⟨rfl, HB6.out⟩

end Go.Proofs.Ytgmlifhiefknbaa

namespace Go.Proofs.Ytgmlifhiefknbaa
open Go.RowKit Go.PlainAid

set_option linter.unusedVariables false

theorem ownI_other {B n c g : Nat} {l : List Int} {w : World} {p : Addr} (h : OwnI B (.slice (some ⟨g, 0, none⟩) n c) l w) (hp : g ≠ p.block) (u : Value) : OwnI B (.slice (some ⟨g, 0, none⟩) n c) l (w.setCell p u) := by
  refine ⟨h.1, ?_⟩
  rcases h.2 with hv | ⟨b, cap, cur, hv, hB, hh, r⟩
  · exact .inl hv
  · cases hv
    exact .inr ⟨g, c, cur, rfl, hB, (Below.heap_setCell _ _ _ _ hp).trans hh, r⟩

theorem rowI_other {g o : Nat} {l : List Int} {w : World} {p : Addr} (h : RowI w (some ⟨g, o, none⟩) l) (hp : g ≠ p.block) (u : Value) : RowI (w.setCell p u) (some ⟨g, o, none⟩) l := by
  rcases h with h | ⟨g', o', he, hc⟩
  · exact .inl h
  · cases he
    refine .inr ⟨g, o, rfl, fun i hi => ?_⟩
    have := hc i hi
    simp only [World.cell?, Below.heap_setCell _ _ _ _ hp] at this ⊢
    exact this

theorem getD_ints {l : List Nat} {k : Nat} : (ints l).getD k 0 = ((l.getD k 0 : Nat) : Int) := ints_getD l k

theorem int_at {r : List Nat} {k : Nat} (hk : k < (ints r).length) : (ints r)[k] = ((r.getD k 0 : Nat) : Int) := by
  rw [← getD_ints, List.getD_eq_getElem?_getD, List.getElem?_eq_getElem hk]
  rfl

theorem mulP_lt {b : List Nat} {r : Nat} (hb : Lt16 b) (hr : r < 16) : ∀ i, Lt16 (mulP b r i)
  | 0 => fun v hv => by rw [(List.mem_replicate.mp hv).2]; omega
  | i + 1 => lt_set (lt_set (mulP_lt hb hr i) (xor_lt (getDn_lt (mulP_lt hb hr i) _) (getDn_lt hb _))) (xor_lt (getDn_lt (mulP_lt hb hr i) _) (gm_lt (getDn_lt hb _) hr))

theorem polyB_next {t : Nat} (h : 1 ≤ t) : polyB (t + 1) = mulP (polyB t) (gp 2 t) (polyB t).length := by
  match t, h with
  | t + 1, _ => rfl

theorem poly_lt1 : Lt16 (polyB 1) := by unfold Lt16; decide

theorem poly_lt2 : Lt16 (polyB 2) := by rw [polyB_two]; unfold Lt16; decide

set_option maxHeartbeats 4000000 in
set_option maxRecDepth 100000 in
theorem specEncodeSymbols_is {a : Option Addr} {c n : Nat} {l : List Int} (hn : l.length = n) {w : World} (h : RowI w a l) (v : List Int) (hv : encI l = v) (hl : (n : Int) ≤ 9223372036854775807) :
    Calls Try.prog 10 #[.slice a n c] w (GivesI v w) := by
  have HN := Lib.hid hn
  have HA := Lib.hid h
  have HV := Lib.hid hv
  clear hn h hv
  by_cases hok : SymOk l 8
  case neg =>
    have KA := Lib.hid (decide_eq_false hok)
    obtain rfl : v = [] := by rw [← HV.out]; exact if_neg hok
    clear hok
    go_enter Try.func10, Try.ntmps10
    go_wp2_with fail
    refine (specSymbolsOk_is HN.out HA.out false KA.out hl).mono ?_
    rintro e w2 ⟨rfl, rfl⟩
    go_wp2_with fail
    go_ret
    exact givesI_empty rfl (Nat.le_refl _) (by show (w.heap.push _)[w.heap.size]? = _; simp) ((Below.refl _ _).alloc (Nat.le_refl _) _)
  have KA := Lib.hid (decide_eq_true hok)
  obtain rfl : n = 8 := by have := hok.2; have := HN.out; omega
  obtain ⟨g, o, rfl, _⟩ := HA.out.at (k := 0) (by rw [HN.out]; omega)
  obtain ⟨u, hu⟩ : ∃ u, nats l = u := ⟨_, rfl⟩
  have HLT : Hid (Lt16 u) := by show Lt16 u; rw [← hu]; exact nats_lt hok.1
  have HUL : Hid (u.length = 8) := by show _ = _; rw [← hu, nats_length]; exact HN.out
  have HLU : Hid (l = ints u) := by show _ = _; rw [← hu, ints_nats hok.1]
  have HF : Hid (ints (enc u) = v) := by show _ = _; rw [← HV.out, encI, if_pos hok, hu]
  obtain ⟨i0, hi, hz0, hz1, hz2⟩ := info_parts infoI
  clear hok hu HV
  go_enter Try.func10, Try.ntmps10
  go_wp2_with fail
  refine (specSymbolsOk_is HN.out HA.out true KA.out hl).mono ?_
  rintro e w2 ⟨rfl, rfl⟩
  go_wp2_with (at_make; refine wpList_make_full _ rfl _ _ 24 rfl w.heap.size 3 i0 (.int .i64 0) 1 Try.underlying24 hi hz0 hz1 _ _ _ _ 3 rfl rfl rfl rfl (by rw [hz2]; omega) (by unfold maxLen; omega) (Nat.le_refl _) ?_)
  intro w1 hown hgr
  have hb1 : Below w.heap.size w w1 := (Below.refl _ _).grown hgr (Nat.le_refl _) (fun k hk => by cases hk)
  have own1 : OwnI w.heap.size (.slice (some ⟨w.heap.size, 0, none⟩) 3 3) [0, 0, 0] w1 := by
    unfold OwnI
    rw [made_one] at hown
    exact hown
  have HR1 := Lib.hid (HA.out.below hb1)
  have hs1 := hb1.size
  clear hown hgr
  go_wp2_with (at_builtin; refine append_int rfl _ _ rfl w.heap.size _ 3 [0, 0, 0] rfl own1 rfl (some ⟨g, o, none⟩) 8 c l rfl HN.out (fun h => by cases h) HR1.out (by omega) hs1 ?_)
  intro v' w4 hown4 hgrow _
  have HB4 : Hid (Below w.heap.size w w4) := hb1.grown hgrow hs1 (fun j hj => by have := Option.some.inj hj; have h2 : w.heap.size = j := this; omega)
  obtain ⟨aa, cc, hv⟩ := hown4.shape
  subst hv
  have hlen : ((0 : Int) :: 0 :: 0 :: l).length = 11 := by have := HN.out; simp only [List.length_cons]; omega
  rw [hlen] at hown4
  obtain ⟨P, rfl, _, _, hBP, hPS⟩ := hown4.at (k := 0) (by rw [hlen]; omega)
  have HO4 : Hid (OwnI w.heap.size (.slice (some ⟨P, 0, none⟩) 11 cc) (0 :: 0 :: 0 :: ints u) w4) := by show OwnI _ _ _ _; rw [← HLU.out]; exact hown4
  have HPS := Lib.hid hPS
  have HBP := Lib.hid hBP
  rw [hlen]
  clear hown4 hgrow own1 hb1 hBP hPS HR1 hs1
  go_wp2_with fail
  have HBY : Hid (RowI (w4.alloc (.cells #[.int .i64 1, .int .i64 1] 3)) (some ⟨w4.heap.size, 0, none⟩) (ints (polyB 1))) := by
    refine .inr ⟨_, _, rfl, fun i hi => ?_⟩
    have hh : (w4.alloc (.cells #[.int .i64 1, .int .i64 1] 3)).heap[w4.heap.size]? = some (.cells #[.int .i64 1, .int .i64 1] 3 (0, 0)) := by show (w4.heap.push _)[w4.heap.size]? = _; simp
    have hi2 : i < 2 := hi
    simp only [World.cell?, hh]
    match i, hi2 with
    | 0, _ => rfl
    | 1, _ => rfl
  go_loopw [4, 5] (fun b j wr => ∃ t Q m cq : Nat, 1 ≤ t ∧ t ≤ 3 ∧ j = .int .i64 t ∧ b = .slice (some ⟨Q, 0, none⟩) m cq ∧ m = t + 1 ∧ RowI wr (some ⟨Q, 0, none⟩) (ints (polyB t)) ∧ P < Q ∧ Q < wr.heap.size ∧ OwnI w.heap.size (.slice (some ⟨P, 0, none⟩) 11 cc) (0 :: 0 :: 0 :: ints u) wr ∧ Below w.heap.size w wr) (fun _ j _ => 3 - (intOf j).toNat)
  case atStart => exact ⟨1, w4.heap.size, 2, 2, Nat.le_refl _, by omega, rfl, rfl, rfl, HBY.out, HPS.out, by simp, World.ownsRow.alloc HO4.out _, HB4.out.alloc HB4.out.size _⟩
  case round =>
    obtain ⟨t, Q, m, cq, ht1, ht3, rfl, rfl, hm, hby, hPQ, hQs, hW, hbr⟩ := hrel
    have HBY := Lib.hid hby
    have HPQ := Lib.hid hPQ
    have HQS := Lib.hid hQs
    have HW := Lib.hid hW
    have HBR := Lib.hid hbr
    clear hby hPQ hQs hW hbr
    by_cases hlt : t < 3
    case neg =>
      obtain rfl : t = 3 := by omega
      obtain rfl : m = 4 := by omega
      rw [polyB_three] at HBY
      have hb3 : Below wr.heap.size wr (wr.alloc (.cells #[] 3)) := (Below.refl _ _).alloc (Nat.le_refl _) _
      have own3 : OwnI wr.heap.size (.slice (some ⟨wr.heap.size, 0, none⟩) 0 0) [] (wr.alloc (.cells #[] 3)) := World.ownsRow_made (base := wr.heap.size) (e := 3) (size := 1) wr #[] 0 (Nat.le_refl _) (by decide) rfl
      have HRW := Lib.hid (HW.out.row.below hb3)
      have hS3 : wr.heap.size ≤ (wr.alloc (.cells #[] 3)).heap.size := by simp
      have hlen3 : ((0 : Int) :: 0 :: 0 :: ints u).length = 11 := by have := HUL.out; simp only [List.length_cons, ints_length]; omega
      go_wp2_with (at_builtin; refine append_int rfl _ _ rfl wr.heap.size _ 0 [] rfl own3 rfl (some ⟨P, 0, none⟩) 11 cc (0 :: 0 :: 0 :: ints u) rfl hlen3 (fun h => by cases h) HRW.out (by omega) hS3 ?_)
      intro v' w5 hown5 hgrow5 _
      (try rw [List.nil_append] at hown5)
      have hb5 : Below wr.heap.size wr w5 := hb3.grown hgrow5 hS3 (fun j hj => by have := Option.some.inj hj; have h2 : wr.heap.size = j := this; omega)
      obtain ⟨ar, cr, hv⟩ := hown5.shape
      subst hv
      rw [hlen3] at hown5
      obtain ⟨R, rfl, _, _, hBR, hRS⟩ := hown5.at (k := 0) (by rw [hlen3]; omega)
      have HR5 : Hid (OwnI wr.heap.size (.slice (some ⟨R, 0, none⟩) 11 cr) (ints (0 :: 0 :: 0 :: u)) w5) := hown5
      have HW5 : Hid (OwnI w.heap.size (.slice (some ⟨P, 0, none⟩) 11 cc) (0 :: 0 :: 0 :: ints u) w5) := HW.out.below hb5
      have HY5 := Lib.hid (HBY.out.below hb5)
      have HB5 : Hid (Below w.heap.size w w5) := HBR.out.trans (hb5.mono HBR.out.size)
      have HQR : Hid (Q < R) := Nat.lt_of_lt_of_le HQS.out hBR
      have HPR : Hid (P < R) := Nat.lt_trans HPQ.out HQR.out
      have HWR : Hid (w.heap.size ≤ R) := Nat.le_of_lt (Nat.lt_of_le_of_lt HBP.out HPR.out)
      have HQ3 := HQS.out
      rw [hlen3]
      clear hown5 hgrow5 own3 hb3 hb5 HRW hS3 hBR hRS HBY HQS HW HBR
      obtain ⟨B0, hB0⟩ : ∃ B0, wr.heap.size = B0 := ⟨_, rfl⟩
      rw [hB0] at HR5
      clear hB0
      go_wp2_with fail
      go_loopw [9] (fun x wx => ∃ i : Nat, ∃ r : List Nat, 2 ≤ i ∧ i ≤ 10 ∧ x = .int .i64 i ∧ DivAt u i r ∧ OwnI B0 (.slice (some ⟨R, 0, none⟩) 11 cr) (ints r) wx ∧ OwnI w.heap.size (.slice (some ⟨P, 0, none⟩) 11 cc) (0 :: 0 :: 0 :: ints u) wx ∧ RowI wx (some ⟨Q, 0, none⟩) (ints [8, 14, 7, 1]) ∧ Below w.heap.size w wx) (fun x _ => (intOf x).toNat)
      case atStart => exact ⟨10, _, by omega, by omega, rfl, div_start HLT.out HUL.out, HR5.out, HW5.out, HY5.out, HB5.out⟩
      case round =>
        obtain ⟨i, r, hi2, hi10, rfl, hdiv, hR, hW, hY, hbr⟩ := hrel
        have HD := Lib.hid hdiv
        have HR6 := Lib.hid hR
        have HW6 := Lib.hid hW
        have HY6 := Lib.hid hY
        have HB6 := Lib.hid hbr
        have HRL : Hid ((ints r).length = 11) := by show _ = _; rw [ints_length]; exact hdiv.1
        have HRT : Hid (Lt16 r) := hdiv.2.1
        clear hdiv hR hW hY hbr HR5 HW5 HY5 HB5
        by_cases hi3 : 3 ≤ i
        case neg =>
          obtain rfl : i = 2 := by omega
          have HEN := Lib.hid (div_end HLT.out HD.out)
          go_wp2_with fail
          go_loopw [13] (fun x wx => ∃ k : Nat, k ≤ 3 ∧ x = .int .i64 k ∧ OwnI B0 (.slice (some ⟨R, 0, none⟩) 11 cr) (ints r) wx ∧ OwnI w.heap.size (.slice (some ⟨P, 0, none⟩) 11 cc) (((if 0 < k then r.getD 0 0 else 0 : Nat) : Int) :: ((if 1 < k then r.getD 1 0 else 0 : Nat) : Int) :: ((if 2 < k then r.getD 2 0 else 0 : Nat) : Int) :: ints u) wx ∧ Below w.heap.size w wx) (fun x _ => 3 - (intOf x).toNat)
          case atStart => exact ⟨0, by omega, rfl, HR6.out, HW6.out, HB6.out⟩
          case round =>
            obtain ⟨k, hk3, rfl, hR, hW, hbr⟩ := hrel
            have HR7 := Lib.hid hR
            have HW7 := Lib.hid hW
            have HB7 := Lib.hid hbr
            clear hR hW hbr HR6 HW6 HY6 HB6
            have hwl : (((if 0 < k then r.getD 0 0 else 0 : Nat) : Int) :: ((if 1 < k then r.getD 1 0 else 0 : Nat) : Int) :: ((if 2 < k then r.getD 2 0 else 0 : Nat) : Int) :: ints u).length = 11 := by have := HUL.out; simp only [List.length_cons, ints_length]; omega
            by_cases hk : k < 3
            case neg =>
              obtain rfl : k = 3 := by omega
              have HFN : Hid (OwnI w.heap.size (.slice (some ⟨P, 0, none⟩) 11 cc) v wr) := by
                show OwnI _ _ _ _
                rw [← HF.out, ← HEN.out]
                exact HW7.out
              have HVL : Hid (v.length = 11) := by show _ = _; rw [← HF.out, ints_length, enc_length, HUL.out]
              go_wp2_with fail
              go_ret
              exact ⟨some ⟨P, 0, none⟩, cc, by rw [HVL.out]; rfl, by rw [HVL.out]; exact HFN.out, HB7.out⟩
            obtain ⟨g1, hg1, hc1, _, _, _⟩ := HR7.out.at (k := k) (by rw [HRL.out]; omega)
            obtain rfl : R = g1 := by simpa using hg1
            obtain ⟨g2, hg2, hc2, hf2, _, _⟩ := HW7.out.at (k := k) (by rw [hwl]; omega)
            obtain rfl : P = g2 := by simpa using hg2
            have hcR : wr.cell? ⟨R, k, none⟩ = some (.int .i64 ((r.getD k 0 : Nat) : Int)) := by
              rw [hc1, ← getD_ints, List.getD_eq_getElem?_getD, List.getElem?_eq_getElem (by rw [HRL.out]; omega)]
              rfl
            have HST : Hid ((((if 0 < k then r.getD 0 0 else 0 : Nat) : Int) :: ((if 1 < k then r.getD 1 0 else 0 : Nat) : Int) :: ((if 2 < k then r.getD 2 0 else 0 : Nat) : Int) :: ints u).set k ((r.getD k 0 : Nat) : Int) = ((if 0 < k + 1 then r.getD 0 0 else 0 : Nat) : Int) :: ((if 1 < k + 1 then r.getD 1 0 else 0 : Nat) : Int) :: ((if 2 < k + 1 then r.getD 2 0 else 0 : Nat) : Int) :: ints u) := by
              show _ = _
              match k, hk with
              | 0, _ => simp
              | 1, _ => simp
              | 2, _ => simp
            obtain ⟨X, hX⟩ : ∃ X : Int, ((r.getD k 0 : Nat) : Int) = X := ⟨_, rfl⟩
            rw [hX] at hcR HST
            obtain ⟨old, hco⟩ : ∃ u, wr.cell? ⟨P, k, none⟩ = some u := ⟨_, hc2⟩
            have HWL := Lib.hid hwl
            clear hX hc1 hc2 hg1 hg2 hwl
            go_wp2_with fail
            have R9 : Hid (OwnI B0 (.slice (some ⟨R, 0, none⟩) 11 cr) (ints r) (wr.setCell ⟨P, k, none⟩ (.int .i64 X))) := ownI_other HR7.out (Nat.ne_of_gt HPR.out) _
            have W9 : Hid (OwnI w.heap.size (.slice (some ⟨P, 0, none⟩) 11 cc) (((if 0 < k + 1 then r.getD 0 0 else 0 : Nat) : Int) :: ((if 1 < k + 1 then r.getD 1 0 else 0 : Nat) : Int) :: ((if 2 < k + 1 then r.getD 2 0 else 0 : Nat) : Int) :: ints u) (wr.setCell ⟨P, k, none⟩ (.int .i64 X))) := by
              show OwnI _ _ _ _
              rw [← HST.out]
              exact HW7.out.stored HWL.out k _
            have HB9 : Hid (Below w.heap.size w (wr.setCell ⟨P, k, none⟩ (.int .i64 X))) := HB7.out.setCell HBP.out _
            go_roundw
            case rel => exact ⟨k + 1, by omega, by go_num, R9.out, W9.out, HB9.out⟩
            case measure => simp [intOf]; omega
        have hfl : r.getD i 0 < 16 := getDn_lt HRT.out i
        obtain ⟨f, hf0⟩ : ∃ f, r.getD i 0 = f := ⟨_, rfl⟩
        have HDS := Lib.hid (div_step HD.out hi3 hi10)
        rw [hf0] at hfl HDS
        have HFL := Lib.hid hfl
        obtain ⟨g1, hg1, hc1, _, _, _⟩ := HR6.out.at (k := i) (by rw [HRL.out]; omega)
        obtain rfl : R = g1 := by simpa using hg1
        have hcf : wr.cell? ⟨R, i, none⟩ = some (.int .i64 (f : Int)) := by
          rw [hc1, int_at, hf0]
        clear hf0 hc1 hg1 hfl
        go_wp2_with fail
        go_loopw [11] (fun x wx => ∃ k : Nat, k ≤ 4 ∧ x = .int .i64 k ∧ OwnI B0 (.slice (some ⟨R, 0, none⟩) 11 cr) (ints (redP r f (i - 3) k)) wx ∧ OwnI w.heap.size (.slice (some ⟨P, 0, none⟩) 11 cc) (0 :: 0 :: 0 :: ints u) wx ∧ RowI wx (some ⟨Q, 0, none⟩) (ints [8, 14, 7, 1]) ∧ Below w.heap.size w wx) (fun x _ => 4 - (intOf x).toNat)
        case atStart => exact ⟨0, by omega, rfl, HR6.out, HW6.out, HY6.out, HB6.out⟩
        case round =>
          obtain ⟨k, hk4, rfl, hR, hW, hY, hbr⟩ := hrel
          have HR7 := Lib.hid hR
          have HW7 := Lib.hid hW
          have HY7 := Lib.hid hY
          have HB7 := Lib.hid hbr
          clear hR hW hY hbr HR6 HW6 HY6 HB6
          by_cases hk : k < 4
          case neg =>
            obtain rfl : k = 4 := by omega
            go_wp2_with fail
            go_roundw
            case rel => exact ⟨i - 1, _, by omega, by omega, by go_num, HDS.out, HR7.out, HW7.out, HY7.out, HB7.out⟩
            case measure => simp [intOf]; omega
          obtain ⟨p, hp⟩ : ∃ p, i - 3 = p := ⟨_, rfl⟩
          obtain ⟨q, hq⟩ : ∃ q, p + k = q := ⟨_, rfl⟩
          have hq11 : q < 11 := by omega
          have u1 : IntKind.i64.wrap ((i : Int) - 3) = (p : Int) := (IntWalk.i64_in _ (by omega)).trans (by omega)
          have u2 : IntKind.i64.wrap ((p : Int) + (k : Int)) = (q : Int) := (IntWalk.i64_in _ (by omega)).trans (by omega)
          rw [hp] at HR7
          have hRQ : Lt16 (redP r f p k) := redP_lt HRT.out HFL.out k
          have HL7 : Hid ((ints (redP r f p k)).length = 11) := by show _ = _; rw [ints_length, redP_length]; have := HRL.out; rwa [ints_length] at this
          obtain ⟨g1, hg1, hc1, _, _, _⟩ := HR7.out.at (k := q) (by rw [HL7.out]; exact hq11)
          obtain rfl : R = g1 := by simpa using hg1
          obtain ⟨g2, o2, he2, hc2⟩ := HY7.out.at (k := k) (by rw [ints_length]; exact hk)
          cases he2
          obtain ⟨X, hX⟩ : ∃ X, (redP r f p k).getD q 0 = X := ⟨_, rfl⟩
          obtain ⟨Y, hY⟩ : ∃ Y, [8, 14, 7, 1].getD k 0 = Y := ⟨_, rfl⟩
          have hXl : X < 16 := by rw [← hX]; exact getDn_lt hRQ q
          have hYl : Y < 16 := by rw [← hY]; exact poly_lt k
          have hcX : wr.cell? ⟨R, q, none⟩ = some (.int .i64 (X : Int)) := by rw [hc1, int_at, hX]
          have hcY : wr.cell? ⟨Q, k, none⟩ = some (.int .i64 (Y : Int)) := by
            have := hc2
            rw [getD_ints, hY, Nat.zero_add] at this
            exact this
          have HM : Hid (gfMul (Y : Int) (f : Int) = ((gm Y f : Nat) : Int)) := gfMul_nat hYl HFL.out
          have hG : gm Y f < 16 := gm_lt hYl HFL.out
          obtain ⟨G, hGe⟩ : ∃ G, gm Y f = G := ⟨_, rfl⟩
          rw [hGe] at HM hG
          have hxor : bits .xor .i64 (X : Int) (G : Int) = ((X ^^^ G : Nat) : Int) := i64_xor_nat X G (by omega) (by omega)
          have HST : Hid ((ints (redP r f p k)).set q ((X ^^^ G : Nat) : Int) = ints (redP r f p (k + 1))) := by
            show _ = _
            rw [← ints_set, ← hX, ← hGe, ← hY, ← hq]
            rfl
          have HP := Lib.hid hp
          have z0 := fun q : Later wr => q.cell hcX
          have z1 := fun q : Later wr => q.cell hcY
          clear hc1 hc2 hX hY hXl hYl hGe hG hg1 hRQ
          go_wp2_with fail
          refine wp_region_later_tail 14 (by kernel_rfl) (by kernel_rfl) ?_
          simp only [List.take_succ_cons, List.take_zero, List.drop_succ_cons, List.drop_zero]
          repeat (go_big_quiet_step (first | (go_at_call 28; exact Gives.later_same _ (specGfMul_is _ _ _ HM.out _))))
          refine wpQuiet_nil ?_
          rintro w8 ⟨zz, hz⟩
          have hb8 : Below wr.heap.size wr w8 := hz ▸ zz.ok
          have HR8 := Lib.hid (HR7.out.below hb8)
          have HW8 : Hid (OwnI w.heap.size (.slice (some ⟨P, 0, none⟩) 11 cc) (0 :: 0 :: 0 :: ints u) w8) := HW7.out.below hb8
          have HY8 := Lib.hid (HY7.out.below hb8)
          have HB8 : Hid (Below w.heap.size w w8) := HB7.out.trans (hb8.mono HB7.out.size)
          obtain ⟨g2, hg2, hc2, hf2, _, _⟩ := HR8.out.at (k := q) (by rw [HL7.out]; exact hq11)
          obtain rfl : R = g2 := by simpa using hg2
          obtain ⟨old, hco⟩ : ∃ u, w8.cell? ⟨R, q, none⟩ = some u := ⟨_, hc2⟩
          clear z0 z1 hz zz hb8 hcX hcY hc2 hg2
          go_wp2_with fail
          have R9 : Hid (OwnI B0 (.slice (some ⟨R, 0, none⟩) 11 cr) (ints (redP r f (i - 3) (k + 1))) (w8.setCell ⟨R, q, none⟩ (.int .i64 ((X ^^^ G : Nat) : Int)))) := by
            show OwnI _ _ _ _
            rw [HP.out, ← HST.out]
            exact HR8.out.stored HL7.out q _
          have W9 : Hid (OwnI w.heap.size (.slice (some ⟨P, 0, none⟩) 11 cc) (0 :: 0 :: 0 :: ints u) (w8.setCell ⟨R, q, none⟩ (.int .i64 ((X ^^^ G : Nat) : Int)))) := ownI_other HW8.out (Nat.ne_of_lt HPR.out) _
          have Y9 : Hid (RowI (w8.setCell ⟨R, q, none⟩ (.int .i64 ((X ^^^ G : Nat) : Int))) (some ⟨Q, 0, none⟩) (ints [8, 14, 7, 1])) := rowI_other HY8.out (Nat.ne_of_lt HQR.out) _
          have HB9 : Hid (Below w.heap.size w (w8.setCell ⟨R, q, none⟩ (.int .i64 ((X ^^^ G : Nat) : Int)))) := HB8.out.setCell HWR.out _
          go_roundw
          case rel => exact ⟨k + 1, by omega, by go_num, R9.out, W9.out, Y9.out, HB9.out⟩
          case measure => simp [intOf]; omega
    have hbl : (polyB t).length = m ∧ Lt16 (polyB t) := by
      obtain rfl | rfl : t = 1 ∨ t = 2 := by omega
      · exact ⟨by rw [hm]; rfl, poly_lt1⟩
      · exact ⟨by rw [hm, polyB_two]; rfl, poly_lt2⟩
    have HBL : Hid ((polyB t).length = m) := hbl.1
    have HBT : Hid (Lt16 (polyB t)) := hbl.2
    have HNX := Lib.hid (polyB_next ht1)
    have HP : Hid (gfPow 2 (t : Int) = ((gp 2 t : Nat) : Int)) := gfPow_nat (a := 2) (by omega) (by omega)
    obtain ⟨y, hy⟩ : ∃ y, gp 2 t = y := ⟨_, rfl⟩
    have hyl : y < 16 := by rw [← hy]; exact gp_lt (by omega) t
    rw [hy] at HP HNX
    obtain ⟨b, hb⟩ : ∃ b, polyB t = b := ⟨_, rfl⟩
    rw [hb] at HBY HBL HBT HNX
    rw [HBL.out] at HNX
    have HYL := Lib.hid hyl
    obtain ⟨N, hN⟩ : ∃ N, m + 1 = N := ⟨_, rfl⟩
    have hm3 : m ≤ 3 := by omega
    have u0 : IntKind.i64.wrap ((m : Int) + 1) = (N : Int) := (IntWalk.i64_in _ (by omega)).trans (by omega)
    have HM := Lib.hid hm
    clear hbl hy hb hyl hm
    obtain ⟨S, hS⟩ : ∃ S, wr.heap.size = S := ⟨_, rfl⟩
    go_wp2_with (at_make; refine wpList_make_full _ rfl _ _ 24 rfl wr.heap.size 3 i0 (.int .i64 0) 1 Try.underlying24 hi hz0 hz1 _ _ _ _ N rfl rfl rfl rfl (by rw [hz2]; omega) (by unfold maxLen; omega) (Nat.le_refl _) ?_)
    intro w1 hown hgr
    have hb1 : Below wr.heap.size wr w1 := (Below.refl _ _).grown hgr (Nat.le_refl _) (fun k hk => by cases hk)
    have own1 : OwnI S (.slice (some ⟨S, 0, none⟩) N N) (ints (mulP b y 0)) w1 := by
      unfold OwnI
      rw [made_one] at hown
      have e : ints (mulP b y 0) = List.replicate N (0 : Int) := by
        show ints (List.replicate (b.length + 1) 0) = _
        rw [HBL.out, hN]
        simp [ints]
      rw [e, List.length_replicate, show (List.replicate N (0 : Int)).map (Value.int .i64) = List.replicate N (Value.int .i64 0) by simp]
      exact hown
    have HY1 := Lib.hid (HBY.out.below hb1)
    have HW1 : Hid (OwnI w.heap.size (.slice (some ⟨P, 0, none⟩) 11 cc) (0 :: 0 :: 0 :: ints u) w1) := HW.out.below hb1
    have HB1 : Hid (Below w.heap.size w w1) := HBR.out.trans (hb1.mono HBR.out.size)
    have HQ1 : Q < S := by have := HQS.out; omega
    have HSZ : Hid (S < w1.heap.size) := by
      obtain ⟨_, he, _, _, _, h5⟩ := own1.at (k := 0) (by rw [ints_length, mulP_length]; omega)
      show S < _
      cases he
      exact h5
    have HO1 := Lib.hid own1
    have HQ2 := Lib.hid HQ1
    have HPS2 : Hid (P < S) := Nat.lt_trans HPQ.out HQ1
    have HWS : Hid (w.heap.size ≤ S) := Nat.le_of_lt (Nat.lt_of_le_of_lt HBP.out HPS2.out)
    clear hown hgr own1 hb1 hS HQ1 HBY HW HBR HQS
    go_wp2_with fail
    go_loopw [7] (fun x wx => ∃ i : Nat, i ≤ m ∧ x = .int .i64 i ∧ OwnI S (.slice (some ⟨S, 0, none⟩) N N) (ints (mulP b y i)) wx ∧ OwnI w.heap.size (.slice (some ⟨P, 0, none⟩) 11 cc) (0 :: 0 :: 0 :: ints u) wx ∧ RowI wx (some ⟨Q, 0, none⟩) (ints b) ∧ Below w.heap.size w wx ∧ S < wx.heap.size) (fun x _ => m - (intOf x).toNat)
    case atStart => exact ⟨0, by omega, rfl, HO1.out, HW1.out, HY1.out, HB1.out, HSZ.out⟩
    case round =>
      obtain ⟨i, hi3, rfl, hO, hW, hY, hbr, hsz⟩ := hrel
      have HO2 := Lib.hid hO
      have HW2 := Lib.hid hW
      have HY2 := Lib.hid hY
      have HB2 := Lib.hid hbr
      have HZ2 := Lib.hid hsz
      clear hO hW hY hbr hsz HO1 HW1 HY1 HB1 HSZ
      by_cases hk : i < m
      case neg =>
        obtain rfl : i = m := by omega
        go_wp2_with fail
        go_roundw
        case rel => exact ⟨t + 1, S, N, N, by omega, by omega, by go_num, rfl, by have := HM.out; omega, by rw [HNX.out]; exact HO2.out.row, HPS2.out, HZ2.out, HW2.out, HB2.out⟩
        case measure => simp [intOf]; omega
      obtain ⟨q, hq⟩ : ∃ q, i + 1 = q := ⟨_, rfl⟩
      have u1 : IntKind.i64.wrap ((i : Int) + 1) = (q : Int) := (IntWalk.i64_in _ (by omega)).trans (by omega)
      obtain ⟨L, hL⟩ : ∃ L, mulP b y i = L := ⟨_, rfl⟩
      rw [hL] at HO2
      have hLlt : Lt16 L := by rw [← hL]; exact mulP_lt HBT.out HYL.out i
      have hLl : L.length = N := by rw [← hL, mulP_length, HBL.out, hN]
      have HLL : Hid ((ints L).length = N) := by show _ = _; rw [ints_length]; exact hLl
      have hqN : q < N := by omega
      have hiN : i < N := by omega
      obtain ⟨g1, hg1, hc1, _, _, _⟩ := HO2.out.at (k := q) (by rw [HLL.out]; exact hqN)
      obtain rfl : S = g1 := by simpa using hg1
      obtain ⟨g2, o2, he2, hc2⟩ := HY2.out.at (k := i) (by rw [ints_length, HBL.out]; exact hk)
      cases he2
      obtain ⟨X, hX⟩ : ∃ X, L.getD q 0 = X := ⟨_, rfl⟩
      obtain ⟨X2, hX2⟩ : ∃ X, L.getD i 0 = X := ⟨_, rfl⟩
      obtain ⟨Y, hY⟩ : ∃ Y, b.getD i 0 = Y := ⟨_, rfl⟩
      have hXl : X < 16 := by rw [← hX]; exact getDn_lt hLlt q
      have hX2l : X2 < 16 := by rw [← hX2]; exact getDn_lt hLlt i
      have hYl : Y < 16 := by rw [← hY]; exact getDn_lt HBT.out i
      have hcX : wr.cell? ⟨S, q, none⟩ = some (.int .i64 (X : Int)) := by rw [hc1, int_at, hX]
      have hcY : wr.cell? ⟨Q, i, none⟩ = some (.int .i64 (Y : Int)) := by
        have := hc2
        rw [getD_ints, hY, Nat.zero_add] at this
        exact this
      have HMU : Hid (gfMul (Y : Int) (y : Int) = ((gm Y y : Nat) : Int)) := gfMul_nat hYl HYL.out
      have hG : gm Y y < 16 := gm_lt hYl HYL.out
      have HMN : Hid (mulP b y (i + 1) = (L.set q (X ^^^ Y)).set i (X2 ^^^ gm Y y)) := by
        show ((mulP b y i).set (i + 1) ((mulP b y i).getD (i + 1) 0 ^^^ b.getD i 0)).set i ((mulP b y i).getD i 0 ^^^ gm (b.getD i 0) y) = _
        rw [hL, hq, hX, hX2, hY]
      obtain ⟨G, hGe⟩ : ∃ G, gm Y y = G := ⟨_, rfl⟩
      rw [hGe] at HMU hG HMN
      have hxor : bits .xor .i64 (X : Int) (Y : Int) = ((X ^^^ Y : Nat) : Int) := i64_xor_nat X Y (by omega) (by omega)
      have hxor2 : bits .xor .i64 (X2 : Int) (G : Int) = ((X2 ^^^ G : Nat) : Int) := i64_xor_nat X2 G (by omega) (by omega)
      have HL1 : Hid ((ints (L.set q (X ^^^ Y))).length = N) := by show _ = _; rw [ints_length, List.length_set]; exact hLl
      have HG1 : Hid ((L.set q (X ^^^ Y)).getD i 0 = X2) := by show _ = _; rw [getDs_ne (by omega), hX2]
      have z0 := fun q : Later wr => q.cell hcX
      have z1 := fun q : Later wr => q.cell hcY
      have HYE : Hid (b.getD i 0 = Y) := hY
      clear hc1 hc2 hX hX2 hY hXl hX2l hYl hGe hG hg1 hL hLlt hLl
      go_wp2_with fail
      refine wp_region_later_tail 14 (by kernel_rfl) (by kernel_rfl) ?_
      simp only [List.take_succ_cons, List.take_zero, List.drop_succ_cons, List.drop_zero]
      repeat (go_big_quiet_step (fail))
      refine wpQuiet_nil ?_
      rintro w8 ⟨zz, hz⟩
      have hb8 : Below wr.heap.size wr w8 := hz ▸ zz.ok
      have HO8 := Lib.hid (HO2.out.below hb8)
      have HW8 : Hid (OwnI w.heap.size (.slice (some ⟨P, 0, none⟩) 11 cc) (0 :: 0 :: 0 :: ints u) w8) := HW2.out.below hb8
      have HY8 := Lib.hid (HY2.out.below hb8)
      have HB8 : Hid (Below w.heap.size w w8) := HB2.out.trans (hb8.mono HB2.out.size)
      have HZ8 : Hid (S < w8.heap.size) := Nat.lt_of_lt_of_le HZ2.out hb8.size
      obtain ⟨g2, hg2, hc2, hf2, _, _⟩ := HO8.out.at (k := q) (by rw [HLL.out]; exact hqN)
      obtain rfl : S = g2 := by simpa using hg2
      obtain ⟨old, hco⟩ : ∃ u, w8.cell? ⟨S, q, none⟩ = some u := ⟨_, hc2⟩
      clear z0 z1 hz zz hb8 hcX hcY hc2 hg2
      go_wp2_with fail
      obtain ⟨w9, hw9⟩ : ∃ x, w8.setCell ⟨S, q, none⟩ (.int .i64 ((X ^^^ Y : Nat) : Int)) = x := ⟨_, rfl⟩
      have HO9 : Hid (OwnI S (.slice (some ⟨S, 0, none⟩) N N) (ints (L.set q (X ^^^ Y))) w9) := by
        show OwnI _ _ _ _
        rw [← hw9, ints_set]
        exact HO8.out.stored HLL.out q _
      have HW9 : Hid (OwnI w.heap.size (.slice (some ⟨P, 0, none⟩) 11 cc) (0 :: 0 :: 0 :: ints u) w9) := by show OwnI _ _ _ _; rw [← hw9]; exact ownI_other HW8.out (Nat.ne_of_lt HPS2.out) _
      have HY9 : Hid (RowI w9 (some ⟨Q, 0, none⟩) (ints b)) := by show RowI _ _ _; rw [← hw9]; exact rowI_other HY8.out (Nat.ne_of_lt HQ2.out) _
      have HB9 : Hid (Below w.heap.size w w9) := by show Below _ _ _; rw [← hw9]; exact HB8.out.setCell HWS.out _
      have HZ9 : Hid (S < w9.heap.size) := by show S < _; rw [← hw9]; simpa using HZ8.out
      rw [hw9]
      clear hw9 HO8 HW8 HY8 HB8 HZ8 HO2 HW2 HY2 HB2 HZ2 hf2 hco
      obtain ⟨g1, hg1, hc1, _, _, _⟩ := HO9.out.at (k := i) (by rw [HL1.out]; exact hiN)
      obtain rfl : S = g1 := by simpa using hg1
      obtain ⟨g2, o2, he2, hc2⟩ := HY9.out.at (k := i) (by rw [ints_length, HBL.out]; exact hk)
      cases he2
      have hcX : w9.cell? ⟨S, i, none⟩ = some (.int .i64 (X2 : Int)) := by rw [hc1, int_at, HG1.out]
      have hcY : w9.cell? ⟨Q, i, none⟩ = some (.int .i64 (Y : Int)) := by
        have := hc2
        rw [getD_ints, HYE.out, Nat.zero_add] at this
        exact this
      have z0 := fun q : Later w9 => q.cell hcX
      have z1 := fun q : Later w9 => q.cell hcY
      clear hc1 hc2 hg1
      refine wp_region_later_tail 15 (by kernel_rfl) (by kernel_rfl) ?_
      simp only [List.take_succ_cons, List.take_zero, List.drop_succ_cons, List.drop_zero]
      repeat (go_big_quiet_step (first | (go_at_call 29; exact Gives.later_same _ (specGfPow_is _ _ _ HP.out _)) | (go_at_call 28; exact Gives.later_same _ (specGfMul_is _ _ _ HMU.out _))))
      refine wpQuiet_nil ?_
      rintro w10 ⟨zz, hz⟩
      have hb10 : Below w9.heap.size w9 w10 := hz ▸ zz.ok
      have HO10 := Lib.hid (HO9.out.below hb10)
      have HW10 : Hid (OwnI w.heap.size (.slice (some ⟨P, 0, none⟩) 11 cc) (0 :: 0 :: 0 :: ints u) w10) := HW9.out.below hb10
      have HY10 := Lib.hid (HY9.out.below hb10)
      have HB10 : Hid (Below w.heap.size w w10) := HB9.out.trans (hb10.mono HB9.out.size)
      have HZ10 : Hid (S < w10.heap.size) := Nat.lt_of_lt_of_le HZ9.out hb10.size
      obtain ⟨g2, hg2, hc2, hf2, _, _⟩ := HO10.out.at (k := i) (by rw [HL1.out]; exact hiN)
      obtain rfl : S = g2 := by simpa using hg2
      obtain ⟨old, hco⟩ : ∃ u, w10.cell? ⟨S, i, none⟩ = some u := ⟨_, hc2⟩
      clear z0 z1 hz zz hb10 hcX hcY hc2 hg2
      go_wp2_with fail
      have O11 : Hid (OwnI S (.slice (some ⟨S, 0, none⟩) N N) (ints (mulP b y (i + 1))) (w10.setCell ⟨S, i, none⟩ (.int .i64 ((X2 ^^^ G : Nat) : Int)))) := by
        show OwnI _ _ _ _
        rw [HMN.out, ints_set]
        exact HO10.out.stored HL1.out i _
      have W11 : Hid (OwnI w.heap.size (.slice (some ⟨P, 0, none⟩) 11 cc) (0 :: 0 :: 0 :: ints u) (w10.setCell ⟨S, i, none⟩ (.int .i64 ((X2 ^^^ G : Nat) : Int)))) := ownI_other HW10.out (Nat.ne_of_lt HPS2.out) _
      have Y11 : Hid (RowI (w10.setCell ⟨S, i, none⟩ (.int .i64 ((X2 ^^^ G : Nat) : Int))) (some ⟨Q, 0, none⟩) (ints b)) := rowI_other HY10.out (Nat.ne_of_lt HQ2.out) _
      have HB11 : Hid (Below w.heap.size w (w10.setCell ⟨S, i, none⟩ (.int .i64 ((X2 ^^^ G : Nat) : Int)))) := HB10.out.setCell HWS.out _
      have HZ11 : Hid (S < (w10.setCell ⟨S, i, none⟩ (.int .i64 ((X2 ^^^ G : Nat) : Int))).heap.size) := by show S < _; simpa using HZ10.out
      go_roundw
      case rel => exact ⟨i + 1, by omega, by rw [← hq] at u1; go_num, O11.out, W11.out, Y11.out, HB11.out, HZ11.out⟩
      case measure => simp [intOf]; omega

end Go.Proofs.Ytgmlifhiefknbaa

namespace Go.Proofs.Ytgmlifhiefknbaa
open Go.RowKit Go.PlainAid

set_option linter.unusedVariables false

/-- A row of the call's own and two numbers. -/
def GivesW (t : List Int × Int × Int) (w : World) (e : Ending) (w' : World) : Prop :=
  ∃ a n cap, t.1.length = n ∧ e = .returned (.tuple #[.slice a n cap, .int .i64 t.2.1, .int .i64 t.2.2]) ∧ OwnI w.heap.size (.slice a n cap) t.1 w' ∧ Below w.heap.size w w'

set_option maxHeartbeats 4000000 in
set_option maxRecDepth 100000 in
theorem specCorrectWord_is {a : Option Addr} {c n : Nat} {l : List Int} (hn : l.length = n) {w : World} (h : RowI w a l) (v : List Int × Int × Int) (hv : corW l = v) (hl : (n : Int) ≤ 9223372036854775807) :
    Calls Try.prog 27 #[.slice a n c] w (GivesW v w) := by
  have HN := Lib.hid hn
  have HA := Lib.hid h
  have HV := Lib.hid hv
  clear hn h hv
  by_cases hok : SymOk l 11
  case neg =>
    have KA := Lib.hid (decide_eq_false hok)
    obtain rfl : v = ([], 2, -1) := by rw [← HV.out]; exact corW_no hok
    clear hok
    go_enter Try.func27, Try.ntmps27
    go_wp2_with fail
    refine (specSymbolsOk_is HN.out HA.out false KA.out hl).mono ?_
    rintro e w2 ⟨rfl, rfl⟩
    go_wp2_with fail
    (try simp only [Exit.inBlock, Exit.then])
    refine bodyPost_ret (v := .tuple #[.slice (some ⟨w.heap.size, 0, none⟩) 0 0, .int .i64 2, .int .i64 (-1)]) (by simp [results, Try.results27, go_sem]) rfl ?_
    exact ⟨some ⟨w.heap.size, 0, none⟩, 0, 0, rfl, rfl, World.ownsRow_made (base := w.heap.size) (e := 3) (size := 1) w #[] 0 (Nat.le_refl _) (by decide) rfl, (Below.refl _ _).alloc (Nat.le_refl _) _⟩
  have KA := Lib.hid (decide_eq_true hok)
  obtain rfl : n = 11 := by have := hok.2; have := HN.out; omega
  obtain ⟨g, o, rfl, _⟩ := HA.out.at (k := 0) (by rw [HN.out]; omega)
  obtain ⟨u, hu⟩ : ∃ u, nats l = u := ⟨_, rfl⟩
  have HLT : Hid (Lt16 u) := by show Lt16 u; rw [← hu]; exact nats_lt hok.1
  have HSY : Hid (syns l = [((syn 0 u : Nat) : Int), ((syn 1 u : Nat) : Int), ((syn 2 u : Nat) : Int)]) := by show _ = _; rw [← hu]; exact if_pos hok
  have HCZ : Hid (Zero3 u → v = (l, 0, -1)) := by show Zero3 u → _; rw [← hu, ← HV.out]; exact corW_zero hok
  have HCN : Hid (¬ Zero3 u → (∀ m < 11, ¬ Hit (syn 0 u) (syn 1 u) (syn 2 u) m) → v = (l, 2, -1)) := by show ¬ _ → _; rw [← hu, ← HV.out]; exact corW_none hok
  have HCH : Hid (¬ Zero3 u → ∀ k, k < 11 → Hit (syn 0 u) (syn 1 u) (syn 2 u) k → (∀ m < k, ¬ Hit (syn 0 u) (syn 1 u) (syn 2 u) m) → v = (l.set k (bits .xor .i64 (l.getD k 0) ((syn 0 u : Nat) : Int)), 1, (k : Int))) := by
    show ¬ _ → _
    rw [← hu, ← HV.out]
    exact fun hz k hk hh hm => corW_hit hok hz hk hh hm
  clear hok hu HV
  obtain ⟨S0, hS0⟩ : ∃ S, syn 0 u = S := ⟨_, rfl⟩
  obtain ⟨S1, hS1⟩ : ∃ S, syn 1 u = S := ⟨_, rfl⟩
  obtain ⟨S2, hS2⟩ : ∃ S, syn 2 u = S := ⟨_, rfl⟩
  have L0 : Hid (S0 < 16) := by show S0 < 16; rw [← hS0]; exact syn_lt 0 HLT.out
  have L1 : Hid (S1 < 16) := by show S1 < 16; rw [← hS1]; exact syn_lt 1 HLT.out
  have HZD : Hid (decide ((S0 : Int) = 0 ∧ (S1 : Int) = 0 ∧ (S2 : Int) = 0) = decide (Zero3 u)) := by show _ = _; rw [← hS0, ← hS1, ← hS2]; exact zero_syns
  rw [hS0, hS1, hS2] at HSY HCN HCH
  clear hS0 hS1 hS2
  obtain ⟨zb, hzb⟩ : ∃ z, decide (Zero3 u) = z := ⟨_, rfl⟩
  have HZB := Lib.hid hzb
  clear hzb
  go_enter Try.func27, Try.ntmps27
  go_wp2_with fail
  refine (specSymbolsOk_is HN.out HA.out true KA.out hl).mono ?_
  rintro e w2 ⟨rfl, rfl⟩
  have hb3 : Below w.heap.size w (w.alloc (.cells #[] 3)) := (Below.refl _ _).alloc (Nat.le_refl _) _
  have own3 : OwnI w.heap.size (.slice (some ⟨w.heap.size, 0, none⟩) 0 0) [] (w.alloc (.cells #[] 3)) := World.ownsRow_made (base := w.heap.size) (e := 3) (size := 1) w #[] 0 (Nat.le_refl _) (by decide) rfl
  have HR3 := Lib.hid (HA.out.below hb3)
  have hS3 : w.heap.size ≤ (w.alloc (.cells #[] 3)).heap.size := by simp
  go_wp2_with (at_builtin; refine append_int rfl _ _ rfl w.heap.size _ 0 [] rfl own3 rfl (some ⟨g, o, none⟩) 11 c l rfl HN.out (fun h => by cases h) HR3.out (by omega) hS3 ?_)
  intro v' w4 hown4 hgrow _
  (try rw [List.nil_append] at hown4)
  have HB4 : Hid (Below w.heap.size w w4) := hb3.grown hgrow hS3 (fun j hj => by have := Option.some.inj hj; have h2 : w.heap.size = j := this; omega)
  obtain ⟨aa, cc, hv⟩ := hown4.shape
  subst hv
  rw [HN.out] at hown4
  obtain ⟨P, rfl, _, _, hBP, hPS⟩ := hown4.at (k := 0) (by rw [HN.out]; omega)
  have HO4 := Lib.hid hown4
  have HPS := Lib.hid hPS
  have HBP := Lib.hid hBP
  rw [HN.out]
  clear hown4 hgrow own3 hb3 hBP hPS HR3 hS3
  go_wp2_with fail
  refine (specSyndromes_is HN.out (HA.out.below HB4.out) _ HSY.out hl).mono ?_
  rintro e w5 ⟨b, cap, rfl, hown, hb⟩
  obtain ⟨R, rfl, _, _, hBR, hRS⟩ := hown.at (k := 0) (by simp)
  have HB5 : Hid (Below w.heap.size w w5) := HB4.out.trans (hb.mono HB4.out.size)
  have HO5 : Hid (OwnI w.heap.size (.slice (some ⟨P, 0, none⟩) 11 cc) l w5) := HO4.out.below hb
  have HR5 := Lib.hid hown.row
  have HPR : Hid (P < R) := Nat.lt_of_lt_of_le HPS.out hBR
  have HRL : Hid (w.heap.size ≤ R) := Nat.le_of_lt (Nat.lt_of_le_of_lt HBP.out HPR.out)
  have HRS := Lib.hid hRS
  clear hown hb HB4 HO4 hBR hRS HPS
  go_wp2_with fail
  refine (specZero_is HR5.out zb (HZD.out.trans HZB.out)).mono ?_
  rintro e w6 ⟨rfl, rfl⟩
  cases zb with
  | true =>
    obtain rfl := HCZ.out (of_decide_eq_true HZB.out)
    go_wp2_with fail
    (try simp only [Exit.inBlock, Exit.then])
    refine bodyPost_ret (v := .tuple #[.slice (some ⟨P, 0, none⟩) 11 cc, .int .i64 0, .int .i64 (-1)]) (by simp [results, Try.results27, go_sem]) rfl ?_
    exact ⟨_, 11, cc, HN.out, rfl, HO5.out, HB5.out⟩
  | false =>
  have HNZ : Hid (¬ Zero3 u) := of_decide_eq_false HZB.out
  go_wp2_with fail
  go_loopw [7] (fun i wr => ∃ k : Nat, k ≤ 11 ∧ i = .int .i64 k ∧ (∀ m < k, ¬ Hit S0 S1 S2 m) ∧ OwnI w.heap.size (.slice (some ⟨P, 0, none⟩) 11 cc) l wr ∧ RowI wr (some ⟨R, 0, none⟩) [(S0 : Int), (S1 : Int), (S2 : Int)] ∧ Below w.heap.size w wr ∧ R < wr.heap.size) (fun i _ => 11 - (intOf i).toNat)
  case atStart => exact ⟨0, Nat.zero_le _, rfl, fun m hm => absurd hm (Nat.not_lt_zero _), HO5.out, HR5.out, HB5.out, HRS.out⟩
  case round =>
    obtain ⟨k, hk, rfl, hno, hown, hrow, hbr, hrs⟩ := hrel
    have HNO := Lib.hid hno
    have HO := Lib.hid hown
    have HR := Lib.hid hrow
    have HBR := Lib.hid hbr
    have HRW := Lib.hid hrs
    clear hno hown hrow hbr hrs
    by_cases hlt : k < 11
    case neg =>
      obtain rfl : k = 11 := by omega
      obtain rfl := HCN.out HNZ.out HNO.out
      go_wp2_with fail
      (try simp only [Exit.inBlock, Exit.then])
      refine bodyPost_ret (v := .tuple #[.slice (some ⟨P, 0, none⟩) 11 cc, .int .i64 2, .int .i64 (-1)]) (by simp [results, Try.results27, go_sem]) rfl ?_
      exact ⟨_, 11, cc, HN.out, rfl, HO.out, HBR.out⟩
    have HP : Hid (gfPow 2 (k : Int) = ((gp 2 k : Nat) : Int)) := gfPow_nat (a := 2) (by omega) (by omega)
    have hyl : gp 2 k < 16 := gp_lt (by omega) k
    have hm0 : gfMul (S0 : Int) ((gp 2 k : Nat) : Int) = ((gm S0 (gp 2 k) : Nat) : Int) := gfMul_nat L0.out hyl
    have hm1 : gfMul (S1 : Int) ((gp 2 k : Nat) : Int) = ((gm S1 (gp 2 k) : Nat) : Int) := gfMul_nat L1.out hyl
    have HH : Hid (Hit S0 S1 S2 k ↔ (S0 : Int) ≠ 0 ∧ ((gm S0 (gp 2 k) : Nat) : Int) = (S1 : Int) ∧ ((gm S1 (gp 2 k) : Nat) : Int) = (S2 : Int)) := by
      show Hit _ _ _ _ ↔ _
      unfold Hit
      omega
    obtain ⟨g2, o2, he2, d0⟩ := HR.out.at (k := 0) (by simp)
    cases he2
    obtain ⟨_, _, he2, d1⟩ := HR.out.at (k := 1) (by simp)
    cases he2
    obtain ⟨_, _, he2, d2⟩ := HR.out.at (k := 2) (by simp)
    cases he2
    have e0 : wr.cell? ⟨R, 0, none⟩ = some (.int .i64 (S0 : Int)) := d0
    have e1 : wr.cell? ⟨R, 1, none⟩ = some (.int .i64 (S1 : Int)) := d1
    have e2 : wr.cell? ⟨R, 2, none⟩ = some (.int .i64 (S2 : Int)) := d2
    clear d0 d1 d2
    obtain ⟨y, hy⟩ : ∃ y, ((gp 2 k : Nat) : Int) = y := ⟨_, rfl⟩
    obtain ⟨A, hA⟩ : ∃ y, ((gm S0 (gp 2 k) : Nat) : Int) = y := ⟨_, rfl⟩
    obtain ⟨B, hB⟩ : ∃ y, ((gm S1 (gp 2 k) : Nat) : Int) = y := ⟨_, rfl⟩
    rw [hA, hB] at HH
    rw [hy] at HP
    rw [hy, hA] at hm0
    rw [hy, hB] at hm1
    obtain ⟨x0, h0⟩ : ∃ y, (S0 : Int) = y := ⟨_, rfl⟩
    obtain ⟨x1, h1⟩ : ∃ y, (S1 : Int) = y := ⟨_, rfl⟩
    obtain ⟨x2, h2⟩ : ∃ y, (S2 : Int) = y := ⟨_, rfl⟩
    rw [h0] at e0 hm0
    rw [h1] at e1 hm1
    rw [h2] at e2
    rw [h0, h1, h2] at HH
    have HCK : Hid (Hit S0 S1 S2 k → v = (l.set k (bits .xor .i64 (l.getD k 0) x0), 1, (k : Int))) := by
      show _ → _
      rw [← h0]
      exact fun q => HCH.out HNZ.out k hlt q HNO.out
    have HNX : Hid (¬ Hit S0 S1 S2 k → ∀ m < k + 1, ¬ Hit S0 S1 S2 m) := by
      intro q m hm
      by_cases e : m = k
      · exact e ▸ q
      · exact HNO.out m (by omega)
    have HM0 := Lib.hid hm0
    have HM1 := Lib.hid hm1
    have z0 := fun q : Later wr => q.cell e0
    have z1 := fun q : Later wr => q.cell e1
    have z2 := fun q : Later wr => q.cell e2
    clear hy hA hB h0 h1 h2 hm0 hm1 hyl
    go_wp2_with fail
    refine (specGfPow_is 2 (k : Int) _ HP.out _).mono ?_
    rintro e w7 ⟨rfl, rfl⟩
    clear e0 e1 e2
    by_cases q0 : x0 = 0
    · have t0 : (x0 == 0) = true := by simpa using q0
      have t0' : (x0 != 0) = false := by simpa using q0
      have HF : Hid (∀ m < k + 1, ¬ Hit S0 S1 S2 m) := HNX.out (fun q => (HH.out.mp q).1 q0)
      go_wp2_with fail
      refine wp_region_later (by kernel_rfl) (by kernel_rfl) ?_
      repeat (go_big_quiet_step (first | (go_at_call_of 28 x0; exact Gives.later_same _ (specGfMul_is _ _ _ HM0.out _)) | (go_at_call_of 28 x1; exact Gives.later_same _ (specGfMul_is _ _ _ HM1.out _))))
      refine wpQuiet_nil ?_
      rintro w3 ⟨zz, hz⟩
      have hb3 : Below wr.heap.size wr w3 := hz ▸ zz.ok
      have O3 := Lib.hid (HO.out.below hb3)
      have R3 := Lib.hid (HR.out.below hb3)
      have HB3 : Hid (Below w.heap.size w w3) := HBR.out.trans (hb3.mono HBR.out.size)
      have HS3 : Hid (R < w3.heap.size) := Nat.lt_of_lt_of_le HRW.out hb3.size
      clear z0 z1 z2 hz zz hb3
      go_wp2_with fail
      go_roundw
      case rel => exact ⟨k + 1, by omega, by go_num, HF.out, O3.out, R3.out, HB3.out, HS3.out⟩
      case measure => simp [intOf]; omega
    by_cases q1 : A = x1
    case neg =>
      have t0 : (x0 == 0) = false := by simpa using q0
      have t0' : (x0 != 0) = true := by simpa using q0
      have t1 : (A == x1) = false := by simpa using q1
      have HF : Hid (∀ m < k + 1, ¬ Hit S0 S1 S2 m) := HNX.out (fun q => q1 (HH.out.mp q).2.1)
      go_wp2_with fail
      refine wp_region_later (by kernel_rfl) (by kernel_rfl) ?_
      repeat (go_big_quiet_step (first | (go_at_call_of 28 x0; exact Gives.later_same _ (specGfMul_is _ _ _ HM0.out _)) | (go_at_call_of 28 x1; exact Gives.later_same _ (specGfMul_is _ _ _ HM1.out _))))
      refine wpQuiet_nil ?_
      rintro w3 ⟨zz, hz⟩
      have hb3 : Below wr.heap.size wr w3 := hz ▸ zz.ok
      have O3 := Lib.hid (HO.out.below hb3)
      have R3 := Lib.hid (HR.out.below hb3)
      have HB3 : Hid (Below w.heap.size w w3) := HBR.out.trans (hb3.mono HBR.out.size)
      have HS3 : Hid (R < w3.heap.size) := Nat.lt_of_lt_of_le HRW.out hb3.size
      clear z0 z1 z2 hz zz hb3
      go_wp2_with fail
      go_roundw
      case rel => exact ⟨k + 1, by omega, by go_num, HF.out, O3.out, R3.out, HB3.out, HS3.out⟩
      case measure => simp [intOf]; omega
    by_cases q2 : B = x2
    case neg =>
      have t0 : (x0 == 0) = false := by simpa using q0
      have t0' : (x0 != 0) = true := by simpa using q0
      have t1 : (A == x1) = true := by simpa using q1
      have t2 : (B == x2) = false := by simpa using q2
      have HF : Hid (∀ m < k + 1, ¬ Hit S0 S1 S2 m) := HNX.out (fun q => q2 (HH.out.mp q).2.2)
      go_wp2_with fail
      refine wp_region_later (by kernel_rfl) (by kernel_rfl) ?_
      repeat (go_big_quiet_step (first | (go_at_call_of 28 x0; exact Gives.later_same _ (specGfMul_is _ _ _ HM0.out _)) | (go_at_call_of 28 x1; exact Gives.later_same _ (specGfMul_is _ _ _ HM1.out _))))
      refine wpQuiet_nil ?_
      rintro w3 ⟨zz, hz⟩
      have hb3 : Below wr.heap.size wr w3 := hz ▸ zz.ok
      have O3 := Lib.hid (HO.out.below hb3)
      have R3 := Lib.hid (HR.out.below hb3)
      have HB3 : Hid (Below w.heap.size w w3) := HBR.out.trans (hb3.mono HBR.out.size)
      have HS3 : Hid (R < w3.heap.size) := Nat.lt_of_lt_of_le HRW.out hb3.size
      clear z0 z1 z2 hz zz hb3
      go_wp2_with fail
      go_roundw
      case rel => exact ⟨k + 1, by omega, by go_num, HF.out, O3.out, R3.out, HB3.out, HS3.out⟩
      case measure => simp [intOf]; omega
    have t0 : (x0 == 0) = false := by simpa using q0
    have t0' : (x0 != 0) = true := by simpa using q0
    have t1 : (A == x1) = true := by simpa using q1
    have t2 : (B == x2) = true := by simpa using q2
    have hve := HCK.out (HH.out.mpr ⟨q0, q1, q2⟩)
    go_wp2_with fail
    refine wp_region_later (by kernel_rfl) (by kernel_rfl) ?_
    repeat (go_big_quiet_step (first | (go_at_call_of 28 x0; exact Gives.later_same _ (specGfMul_is _ _ _ HM0.out _)) | (go_at_call_of 28 x1; exact Gives.later_same _ (specGfMul_is _ _ _ HM1.out _))))
    refine wpQuiet_nil ?_
    rintro w3 ⟨zz, hz⟩
    have hb3 : Below wr.heap.size wr w3 := hz ▸ zz.ok
    have O3 := Lib.hid (HO.out.below hb3)
    have R3 := Lib.hid (HR.out.below hb3)
    have HB3 : Hid (Below w.heap.size w w3) := HBR.out.trans (hb3.mono HBR.out.size)
    have HS3 : Hid (R < w3.heap.size) := Nat.lt_of_lt_of_le HRW.out hb3.size
    obtain ⟨g', hg', hc3, hf3, _, _⟩ := O3.out.at (k := k) (by rw [HN.out]; exact hlt)
    obtain rfl : P = g' := by simpa using hg'
    have hc4 : w3.cell? ⟨P, k, none⟩ = some (.int .i64 (l.getD k 0)) := by
      rw [hc3, List.getD_eq_getElem?_getD, List.getElem?_eq_getElem (by rw [HN.out]; exact hlt)]
      rfl
    have e0 := z0 zz
    rw [← hz] at e0
    clear z0 z1 z2 hz zz hb3 hc3
    obtain ⟨X, hX⟩ : ∃ X, l.getD k 0 = X := ⟨_, rfl⟩
    rw [hX] at hc4 hve
    have z0 := fun q : Later w3 => q.cell e0
    have z1 := fun q : Later w3 => q.cell hc4
    obtain ⟨Y, hY⟩ : ∃ Y, bits .xor .i64 X x0 = Y := ⟨_, rfl⟩
    rw [hY] at hve
    have HVE := Lib.hid hve
    clear hX hve
    go_wp2_with fail
    refine wp_region_later_tail 11 (by kernel_rfl) (by kernel_rfl) ?_
    simp only [List.take_succ_cons, List.take_zero, List.drop_succ_cons, List.drop_zero]
    repeat (go_big_quiet_step (fail))
    refine wpQuiet_nil ?_
    rintro w8 ⟨zz, hz⟩
    have hb8 : Below w3.heap.size w3 w8 := hz ▸ zz.ok
    have O8 := Lib.hid (O3.out.below hb8)
    have HB8 : Hid (Below w.heap.size w w8) := HB3.out.trans (hb8.mono HB3.out.size)
    obtain ⟨g', hg', hc8, hf8, _, _⟩ := O8.out.at (k := k) (by rw [HN.out]; exact hlt)
    obtain rfl : P = g' := by simpa using hg'
    obtain ⟨old, hco⟩ : ∃ u, w8.cell? ⟨P, k, none⟩ = some u := ⟨_, hc8⟩
    clear z0 z1 hz zz hb8 hc4 hc8 e0
    go_wp2_with fail
    (try simp only [Exit.inBlock, Exit.then])
    refine bodyPost_ret (v := .tuple #[.slice (some ⟨P, 0, none⟩) 11 cc, .int .i64 1, .int .i64 (k : Int)]) (by simp [results, Try.results27, go_sem]) rfl ?_
    obtain rfl := HVE.out
    exact ⟨_, 11, cc, by rw [List.length_set]; exact HN.out, rfl, O8.out.stored HN.out k _, HB8.out.setCell HBP.out _⟩

end Go.Proofs.Ytgmlifhiefknbaa

namespace Go.Proofs.Ytgmlifhiefknbaa
open Go.RowKit Go.PlainAid

set_option linter.unusedVariables false

set_option maxHeartbeats 8000000 in
set_option maxRecDepth 100000 in
theorem exSyndromes_of (IMPL : Hid ISyndromes) (a0 : Option Addr) (len cap : Nat) (zs : List Int) (w : World) (hr : IsRow .i64 w a0 len cap zs) :
    Calls Try.prog 5 #[.slice a0 len cap] w fun e w' => e = .returned (.bool true) ∧ Below w.heap.size w w' := by
  obtain ⟨hr0, hz⟩ := isRow_row hr
  have hcap : len ≤ cap := by
    rcases hr with ⟨_, h1, h2, _⟩ | ⟨x, _, h1, _⟩
    · omega
    · exact h1
  generalize zs.take len = l at hr0 hz
  clear hr
  obtain ⟨v, hv⟩ : ∃ v, syns l = v := ⟨_, rfl⟩
  have hvl : v.length ≤ 11 := by rw [← hv]; exact syns_le l
  obtain ⟨m, hm⟩ : ∃ m, v.length = m := ⟨_, rfl⟩
  have HV := Lib.hid hv
  have HM := Lib.hid hm
  have hm11 : m ≤ 11 := by omega
  have HML := Lib.hid hm11
  have HML2 : Hid ((m : Int) ≤ 9223372036854775807) := by show _ ≤ _; omega
  have t1n : decide (((1 + m : Nat) : Int) < 0) = false := decide_eq_false (by omega)
  have t1l : decide (((1 + len : Nat) : Int) < 0) = false := decide_eq_false (by omega)
  have tmm : (((1 + m : Nat) : Int) != ((1 + m : Nat) : Int)) = false := by simp
  clear hv hvl hm
  by_cases hbig : (1048576 : Int) < (len : Int)
  · go_enter Try.func5, Try.ntmps5
    go_wp2
    go_ret
    exact ⟨rfl, Below.refl _ _⟩
  have HZ := Lib.hid hz
  have HR0 := Lib.hid hr0
  have HL : Hid (len ≤ 3000000) := by show len ≤ 3000000; omega
  have HL2 : Hid ((len : Int) ≤ 9223372036854775807) := by show _ ≤ _; omega
  clear hz hr0
  go_enter Try.func5, Try.ntmps5
  have HB0 : Hid (Below w.heap.size w w) := Below.refl _ _
  have SZ0 : Hid (w.heap.size ≤ w.heap.size) := HB0.out.size
  go_wp2_with fail
  refine (toIntS_is a0 len cap l HZ.out (by omega) _ (HR0.out.below HB0.out)).mono ?_
  rintro e w1 ⟨Aa, Ac, rfl, own1, hb1⟩
  rw [HZ.out] at own1
  try rw [HZ.out]
  have A1 : Hid (OwnJ w.heap.size (.slice Aa len Ac) l w1) := own1.toJ HZ.out
  have hcA : Hid (len ≤ Ac) := own1.cap_le HZ.out
  have HB1 : Hid (Below w.heap.size w w1) := HB0.out.trans (hb1.mono HB0.out.size)
  clear own1 hb1 HB0
  have SZ1 : Hid (w.heap.size ≤ w1.heap.size) := HB1.out.size
  go_wp2_with fail
  refine (specSyndromes_is HZ.out A1.out.row v HV.out HL2.out).mono ?_
  rintro e w2 ⟨Va, Vc, rfl, own2, hb2⟩
  rw [HM.out] at own2
  try rw [HM.out]
  have V2 : Hid (OwnJ w1.heap.size (.slice Va m Vc) v w2) := own2.toJ HM.out
  have PAV : Hid (Apt Aa Va) := apt_new A1.out V2.out
  have HB2 : Hid (Below w.heap.size w w2) := HB1.out.trans (hb2.mono HB1.out.size)
  have A2 : Hid (OwnJ w.heap.size (.slice Aa len Ac) l w2) := A1.out.below hb2
  clear A1
  clear own2 hb2 HB1
  clear A2
  have SZ2 : Hid (w.heap.size ≤ w2.heap.size) := HB2.out.size
  go_wp2_with fail
  refine (toIntS_is a0 len cap l HZ.out (by omega) _ (HR0.out.below HB2.out)).mono ?_
  rintro e w3 ⟨Xa, Xc, rfl, own3, hb3⟩
  rw [HZ.out] at own3
  try rw [HZ.out]
  have X3 : Hid (OwnJ w2.heap.size (.slice Xa len Xc) l w3) := own3.toJ HZ.out
  have hcX : Hid (len ≤ Xc) := own3.cap_le HZ.out
  have PVX : Hid (Apt Va Xa) := apt_new V2.out X3.out
  have HB3 : Hid (Below w.heap.size w w3) := HB2.out.trans (hb3.mono HB2.out.size)
  have V3 : Hid (OwnJ w1.heap.size (.slice Va m Vc) v w3) := V2.out.below hb3
  clear V2
  clear own3 hb3 HB2
  have SZ3 : Hid (w.heap.size ≤ w3.heap.size) := HB3.out.size
  go_wp2_with fail
  refine (IMPL.out Xa len Xc l m HML.out v HV.out HM.out HZ.out HL.out hcX.out _ X3.out.row).mono ?_
  rintro e w4 ⟨Ga, Gc, rfl, _, own4, hb4⟩
  have G4 : Hid (OwnJ w3.heap.size (.slice Ga m Gc) v w4) := own4
  have PVG : Hid (Apt Va Ga) := apt_new V3.out G4.out
  have PXG : Hid (Apt Xa Ga) := apt_new X3.out G4.out
  have HB4 : Hid (Below w.heap.size w w4) := HB3.out.trans (hb4.mono HB3.out.size)
  have V4 : Hid (OwnJ w1.heap.size (.slice Va m Vc) v w4) := V3.out.below hb4
  have X4 : Hid (OwnJ w2.heap.size (.slice Xa len Xc) l w4) := X3.out.below hb4
  clear V3 X3
  clear own4 hb4 HB3
  go_wp2_with fail
  refine (eqIntS_row HM.out G4.out.row V4.out.row HML2.out).mono ?_
  rintro e w5 ⟨rfl, hb5⟩
  have HB5 : Hid (Below w.heap.size w w5) := HB4.out.trans (hb5.mono HB4.out.size)
  have V5 : Hid (OwnJ w1.heap.size (.slice Va m Vc) v w5) := V4.out.below hb5
  have X5 : Hid (OwnJ w2.heap.size (.slice Xa len Xc) l w5) := X4.out.below hb5
  have G5 : Hid (OwnJ w3.heap.size (.slice Ga m Gc) v w5) := G4.out.below hb5
  clear V4 X4 G4
  clear hb5 HB4
  have SZ5 : Hid (w.heap.size ≤ w5.heap.size) := HB5.out.size
  go_wp2_with fail
  refine (toIntS_is a0 len cap l HZ.out (by omega) _ (HR0.out.below HB5.out)).mono ?_
  rintro e w6 ⟨Ta, Tc, rfl, own6, hb6⟩
  rw [HZ.out] at own6
  try rw [HZ.out]
  have T6 : Hid (OwnJ w5.heap.size (.slice Ta len Tc) l w6) := own6.toJ HZ.out
  have hcT : Hid (len ≤ Tc) := own6.cap_le HZ.out
  have PVT : Hid (Apt Va Ta) := apt_new V5.out T6.out
  have PXT : Hid (Apt Xa Ta) := apt_new X5.out T6.out
  have PGT : Hid (Apt Ga Ta) := apt_new G5.out T6.out
  have HB6 : Hid (Below w.heap.size w w6) := HB5.out.trans (hb6.mono HB5.out.size)
  have V6 : Hid (OwnJ w1.heap.size (.slice Va m Vc) v w6) := V5.out.below hb6
  have X6 : Hid (OwnJ w2.heap.size (.slice Xa len Xc) l w6) := X5.out.below hb6
  have G6 : Hid (OwnJ w3.heap.size (.slice Ga m Gc) v w6) := G5.out.below hb6
  clear V5 X5 G5
  clear own6 hb6 HB5
  go_wp2_with fail
  refine (eqIntS_row HZ.out X6.out.row T6.out.row HL2.out).mono ?_
  rintro e w7 ⟨rfl, hb7⟩
  have HB7 : Hid (Below w.heap.size w w7) := HB6.out.trans (hb7.mono HB6.out.size)
  have V7 : Hid (OwnJ w1.heap.size (.slice Va m Vc) v w7) := V6.out.below hb7
  have X7 : Hid (OwnJ w2.heap.size (.slice Xa len Xc) l w7) := X6.out.below hb7
  have G7 : Hid (OwnJ w3.heap.size (.slice Ga m Gc) v w7) := G6.out.below hb7
  have T7 : Hid (OwnJ w5.heap.size (.slice Ta len Tc) l w7) := T6.out.below hb7
  clear V6 X6 G6 T6
  clear hb7 HB6
  clear T7
  obtain ⟨gR, hgR, hBR, hneR⟩ := X7.out.pick
  have HBB : Hid (w.heap.size ≤ gR) := Nat.le_trans SZ2.out hBR
  have NV : Hid (∀ y, Va = some y → y.block ≠ gR) := fun y hy => hneR y.block (V7.out.lo y hy).2 (fun x hx => fun h => PVX.out y x hy hx h.symm)
  have NG : Hid (∀ y, Ga = some y → y.block ≠ gR) := fun y hy => hneR y.block (G7.out.lo y hy).2 (fun x hx => PXG.out x y hx hy)
  clear hneR hBR
  have HGR := Lib.hid hgR
  clear hgR
  go_wp2_with fail
  refine (markIntS_j HZ.out X7.out 1 (by omega) gR HGR.out).mono ?_
  rintro e w8 ⟨rfl, own8, ho8⟩
  have HB8 : Hid (Below w.heap.size w w8) := HB7.out.trans (ho8.below HBB.out HB7.out.size)
  have V8 : Hid (OwnJ w1.heap.size (.slice Va m Vc) v w8) := V7.out.keep ho8 NV.out
  have G8 : Hid (OwnJ w3.heap.size (.slice Ga m Gc) v w8) := G7.out.keep ho8 NG.out
  have X8 : Hid (OwnJ w2.heap.size (.slice Xa len Xc) (marksI 1 len) w8) := own8
  clear V7 X7 G7 own8 ho8 HB7 HBB HGR NV NG
  clear X8
  go_wp2_with fail
  refine (eqIntS_row HM.out G8.out.row V8.out.row HML2.out).mono ?_
  rintro e w9 ⟨rfl, hb9⟩
  have HB9 : Hid (Below w.heap.size w w9) := HB8.out.trans (hb9.mono HB8.out.size)
  have V9 : Hid (OwnJ w1.heap.size (.slice Va m Vc) v w9) := V8.out.below hb9
  have G9 : Hid (OwnJ w3.heap.size (.slice Ga m Gc) v w9) := G8.out.below hb9
  clear V8 G8
  clear hb9 HB8
  obtain ⟨gR, hgR, hBR, hneR⟩ := G9.out.pick
  have HBB : Hid (w.heap.size ≤ gR) := Nat.le_trans SZ3.out hBR
  have NV : Hid (∀ y, Va = some y → y.block ≠ gR) := fun y hy => hneR y.block (V9.out.lo y hy).2 (fun x hx => fun h => PVG.out y x hy hx h.symm)
  clear hneR hBR
  have HGR := Lib.hid hgR
  clear hgR
  go_wp2_with fail
  refine (markIntS_j HM.out G9.out 1 (by omega) gR HGR.out).mono ?_
  rintro e w10 ⟨rfl, own10, ho10⟩
  have HB10 : Hid (Below w.heap.size w w10) := HB9.out.trans (ho10.below HBB.out HB9.out.size)
  have V10 : Hid (OwnJ w1.heap.size (.slice Va m Vc) v w10) := V9.out.keep ho10 NV.out
  have G10 : Hid (OwnJ w3.heap.size (.slice Ga m Gc) (marksI 1 m) w10) := own10
  clear V9 G9 own10 ho10 HB9 HBB HGR NV
  go_wp2_with fail
  refine (heldIntS_row 1 G10.out.row (by omega)).mono ?_
  rintro e w11 ⟨rfl, hb11⟩
  have HB11 : Hid (Below w.heap.size w w11) := HB10.out.trans (hb11.mono HB10.out.size)
  have V11 : Hid (OwnJ w1.heap.size (.slice Va m Vc) v w11) := V10.out.below hb11
  have G11 : Hid (OwnJ w3.heap.size (.slice Ga m Gc) (marksI 1 m) w11) := G10.out.below hb11
  clear V10 G10
  clear hb11 HB10
  have SZ11 : Hid (w.heap.size ≤ w11.heap.size) := HB11.out.size
  go_wp2_with fail
  refine (toIntS_is a0 len cap l HZ.out (by omega) _ (HR0.out.below HB11.out)).mono ?_
  rintro e w12 ⟨Ua, Uc, rfl, own12, hb12⟩
  rw [HZ.out] at own12
  try rw [HZ.out]
  have U12 : Hid (OwnJ w11.heap.size (.slice Ua len Uc) l w12) := own12.toJ HZ.out
  have hcU : Hid (len ≤ Uc) := own12.cap_le HZ.out
  have PVU : Hid (Apt Va Ua) := apt_new V11.out U12.out
  have PGU : Hid (Apt Ga Ua) := apt_new G11.out U12.out
  have HB12 : Hid (Below w.heap.size w w12) := HB11.out.trans (hb12.mono HB11.out.size)
  have V12 : Hid (OwnJ w1.heap.size (.slice Va m Vc) v w12) := V11.out.below hb12
  have G12 : Hid (OwnJ w3.heap.size (.slice Ga m Gc) (marksI 1 m) w12) := G11.out.below hb12
  clear V11 G11
  clear own12 hb12 HB11
  have SZ12 : Hid (w.heap.size ≤ w12.heap.size) := HB12.out.size
  go_wp2_with fail
  refine (IMPL.out Ua len Uc l m HML.out v HV.out HM.out HZ.out HL.out hcU.out _ U12.out.row).mono ?_
  rintro e w13 ⟨Ha, Hc, rfl, _, own13, hb13⟩
  have H13 : Hid (OwnJ w12.heap.size (.slice Ha m Hc) v w13) := own13
  have PVH : Hid (Apt Va Ha) := apt_new V12.out H13.out
  have PGH : Hid (Apt Ga Ha) := apt_new G12.out H13.out
  have PUH : Hid (Apt Ua Ha) := apt_new U12.out H13.out
  have HB13 : Hid (Below w.heap.size w w13) := HB12.out.trans (hb13.mono HB12.out.size)
  have V13 : Hid (OwnJ w1.heap.size (.slice Va m Vc) v w13) := V12.out.below hb13
  have G13 : Hid (OwnJ w3.heap.size (.slice Ga m Gc) (marksI 1 m) w13) := G12.out.below hb13
  have U13 : Hid (OwnJ w11.heap.size (.slice Ua len Uc) l w13) := U12.out.below hb13
  clear V12 G12 U12
  clear own13 hb13 HB12
  clear U13
  go_wp2_with fail
  refine (eqIntS_row HM.out H13.out.row V13.out.row HML2.out).mono ?_
  rintro e w14 ⟨rfl, hb14⟩
  have HB14 : Hid (Below w.heap.size w w14) := HB13.out.trans (hb14.mono HB13.out.size)
  have V14 : Hid (OwnJ w1.heap.size (.slice Va m Vc) v w14) := V13.out.below hb14
  have G14 : Hid (OwnJ w3.heap.size (.slice Ga m Gc) (marksI 1 m) w14) := G13.out.below hb14
  have H14 : Hid (OwnJ w12.heap.size (.slice Ha m Hc) v w14) := H13.out.below hb14
  clear V13 G13 H13
  clear hb14 HB13
  clear H14
  go_wp2_with fail
  refine (heldIntS_row 1 G14.out.row (by omega)).mono ?_
  rintro e w15 ⟨rfl, hb15⟩
  have HB15 : Hid (Below w.heap.size w w15) := HB14.out.trans (hb15.mono HB14.out.size)
  have V15 : Hid (OwnJ w1.heap.size (.slice Va m Vc) v w15) := V14.out.below hb15
  have G15 : Hid (OwnJ w3.heap.size (.slice Ga m Gc) (marksI 1 m) w15) := G14.out.below hb15
  clear V14 G14
  clear hb15 HB14
  go_wp2_with fail
  go_ret
  exact ⟨rfl, HB15.out⟩

set_option maxHeartbeats 8000000 in
set_option maxRecDepth 100000 in
theorem exDataOf_of (IMPL : Hid IDataOf) (a0 : Option Addr) (len cap : Nat) (zs : List Int) (w : World) (hr : IsRow .i64 w a0 len cap zs) :
    Calls Try.prog 7 #[.slice a0 len cap] w fun e w' => e = .returned (.bool true) ∧ Below w.heap.size w w' := by
  obtain ⟨hr0, hz⟩ := isRow_row hr
  have hcap : len ≤ cap := by
    rcases hr with ⟨_, h1, h2, _⟩ | ⟨x, _, h1, _⟩
    · omega
    · exact h1
  generalize zs.take len = l at hr0 hz
  clear hr
  obtain ⟨v, hv⟩ : ∃ v, dataI l = v := ⟨_, rfl⟩
  have hvl : v.length ≤ 11 := by rw [← hv]; exact dataI_le l
  obtain ⟨m, hm⟩ : ∃ m, v.length = m := ⟨_, rfl⟩
  have HV := Lib.hid hv
  have HM := Lib.hid hm
  have hm11 : m ≤ 11 := by omega
  have HML := Lib.hid hm11
  have HML2 : Hid ((m : Int) ≤ 9223372036854775807) := by show _ ≤ _; omega
  have t1n : decide (((1 + m : Nat) : Int) < 0) = false := decide_eq_false (by omega)
  have t1l : decide (((1 + len : Nat) : Int) < 0) = false := decide_eq_false (by omega)
  have tmm : (((1 + m : Nat) : Int) != ((1 + m : Nat) : Int)) = false := by simp
  clear hv hvl hm
  by_cases hbig : (1048576 : Int) < (len : Int)
  · go_enter Try.func7, Try.ntmps7
    go_wp2
    go_ret
    exact ⟨rfl, Below.refl _ _⟩
  have HZ := Lib.hid hz
  have HR0 := Lib.hid hr0
  have HL : Hid (len ≤ 3000000) := by show len ≤ 3000000; omega
  have HL2 : Hid ((len : Int) ≤ 9223372036854775807) := by show _ ≤ _; omega
  clear hz hr0
  go_enter Try.func7, Try.ntmps7
  have HB0 : Hid (Below w.heap.size w w) := Below.refl _ _
  have SZ0 : Hid (w.heap.size ≤ w.heap.size) := HB0.out.size
  go_wp2_with fail
  refine (toIntS_is a0 len cap l HZ.out (by omega) _ (HR0.out.below HB0.out)).mono ?_
  rintro e w1 ⟨Aa, Ac, rfl, own1, hb1⟩
  rw [HZ.out] at own1
  try rw [HZ.out]
  have A1 : Hid (OwnJ w.heap.size (.slice Aa len Ac) l w1) := own1.toJ HZ.out
  have hcA : Hid (len ≤ Ac) := own1.cap_le HZ.out
  have HB1 : Hid (Below w.heap.size w w1) := HB0.out.trans (hb1.mono HB0.out.size)
  clear own1 hb1 HB0
  have SZ1 : Hid (w.heap.size ≤ w1.heap.size) := HB1.out.size
  go_wp2_with fail
  refine (specDataOf_is HZ.out hcA.out A1.out.row v HV.out HL2.out).mono ?_
  rintro e w2 ⟨Va, Vc, rfl, own2, hb2⟩
  rw [HM.out] at own2
  try rw [HM.out]
  have V2 : Hid (OwnJ w1.heap.size (.slice Va m Vc) v w2) := own2.toJ HM.out
  have PAV : Hid (Apt Aa Va) := apt_new A1.out V2.out
  have HB2 : Hid (Below w.heap.size w w2) := HB1.out.trans (hb2.mono HB1.out.size)
  have A2 : Hid (OwnJ w.heap.size (.slice Aa len Ac) l w2) := A1.out.below hb2
  clear A1
  clear own2 hb2 HB1
  clear A2
  have SZ2 : Hid (w.heap.size ≤ w2.heap.size) := HB2.out.size
  go_wp2_with fail
  refine (toIntS_is a0 len cap l HZ.out (by omega) _ (HR0.out.below HB2.out)).mono ?_
  rintro e w3 ⟨Xa, Xc, rfl, own3, hb3⟩
  rw [HZ.out] at own3
  try rw [HZ.out]
  have X3 : Hid (OwnJ w2.heap.size (.slice Xa len Xc) l w3) := own3.toJ HZ.out
  have hcX : Hid (len ≤ Xc) := own3.cap_le HZ.out
  have PVX : Hid (Apt Va Xa) := apt_new V2.out X3.out
  have HB3 : Hid (Below w.heap.size w w3) := HB2.out.trans (hb3.mono HB2.out.size)
  have V3 : Hid (OwnJ w1.heap.size (.slice Va m Vc) v w3) := V2.out.below hb3
  clear V2
  clear own3 hb3 HB2
  have SZ3 : Hid (w.heap.size ≤ w3.heap.size) := HB3.out.size
  go_wp2_with fail
  refine (IMPL.out Xa len Xc l m HML.out v HV.out HM.out HZ.out HL.out hcX.out _ X3.out.row).mono ?_
  rintro e w4 ⟨Ga, Gc, rfl, _, own4, hb4⟩
  have G4 : Hid (OwnJ w3.heap.size (.slice Ga m Gc) v w4) := own4
  have PVG : Hid (Apt Va Ga) := apt_new V3.out G4.out
  have PXG : Hid (Apt Xa Ga) := apt_new X3.out G4.out
  have HB4 : Hid (Below w.heap.size w w4) := HB3.out.trans (hb4.mono HB3.out.size)
  have V4 : Hid (OwnJ w1.heap.size (.slice Va m Vc) v w4) := V3.out.below hb4
  have X4 : Hid (OwnJ w2.heap.size (.slice Xa len Xc) l w4) := X3.out.below hb4
  clear V3 X3
  clear own4 hb4 HB3
  go_wp2_with fail
  refine (eqIntS_row HM.out G4.out.row V4.out.row HML2.out).mono ?_
  rintro e w5 ⟨rfl, hb5⟩
  have HB5 : Hid (Below w.heap.size w w5) := HB4.out.trans (hb5.mono HB4.out.size)
  have V5 : Hid (OwnJ w1.heap.size (.slice Va m Vc) v w5) := V4.out.below hb5
  have X5 : Hid (OwnJ w2.heap.size (.slice Xa len Xc) l w5) := X4.out.below hb5
  have G5 : Hid (OwnJ w3.heap.size (.slice Ga m Gc) v w5) := G4.out.below hb5
  clear V4 X4 G4
  clear hb5 HB4
  have SZ5 : Hid (w.heap.size ≤ w5.heap.size) := HB5.out.size
  go_wp2_with fail
  refine (toIntS_is a0 len cap l HZ.out (by omega) _ (HR0.out.below HB5.out)).mono ?_
  rintro e w6 ⟨Ta, Tc, rfl, own6, hb6⟩
  rw [HZ.out] at own6
  try rw [HZ.out]
  have T6 : Hid (OwnJ w5.heap.size (.slice Ta len Tc) l w6) := own6.toJ HZ.out
  have hcT : Hid (len ≤ Tc) := own6.cap_le HZ.out
  have PVT : Hid (Apt Va Ta) := apt_new V5.out T6.out
  have PXT : Hid (Apt Xa Ta) := apt_new X5.out T6.out
  have PGT : Hid (Apt Ga Ta) := apt_new G5.out T6.out
  have HB6 : Hid (Below w.heap.size w w6) := HB5.out.trans (hb6.mono HB5.out.size)
  have V6 : Hid (OwnJ w1.heap.size (.slice Va m Vc) v w6) := V5.out.below hb6
  have X6 : Hid (OwnJ w2.heap.size (.slice Xa len Xc) l w6) := X5.out.below hb6
  have G6 : Hid (OwnJ w3.heap.size (.slice Ga m Gc) v w6) := G5.out.below hb6
  clear V5 X5 G5
  clear own6 hb6 HB5
  go_wp2_with fail
  refine (eqIntS_row HZ.out X6.out.row T6.out.row HL2.out).mono ?_
  rintro e w7 ⟨rfl, hb7⟩
  have HB7 : Hid (Below w.heap.size w w7) := HB6.out.trans (hb7.mono HB6.out.size)
  have V7 : Hid (OwnJ w1.heap.size (.slice Va m Vc) v w7) := V6.out.below hb7
  have X7 : Hid (OwnJ w2.heap.size (.slice Xa len Xc) l w7) := X6.out.below hb7
  have G7 : Hid (OwnJ w3.heap.size (.slice Ga m Gc) v w7) := G6.out.below hb7
  have T7 : Hid (OwnJ w5.heap.size (.slice Ta len Tc) l w7) := T6.out.below hb7
  clear V6 X6 G6 T6
  clear hb7 HB6
  clear T7
  obtain ⟨gR, hgR, hBR, hneR⟩ := X7.out.pick
  have HBB : Hid (w.heap.size ≤ gR) := Nat.le_trans SZ2.out hBR
  have NV : Hid (∀ y, Va = some y → y.block ≠ gR) := fun y hy => hneR y.block (V7.out.lo y hy).2 (fun x hx => fun h => PVX.out y x hy hx h.symm)
  have NG : Hid (∀ y, Ga = some y → y.block ≠ gR) := fun y hy => hneR y.block (G7.out.lo y hy).2 (fun x hx => PXG.out x y hx hy)
  clear hneR hBR
  have HGR := Lib.hid hgR
  clear hgR
  go_wp2_with fail
  refine (markIntS_j HZ.out X7.out 1 (by omega) gR HGR.out).mono ?_
  rintro e w8 ⟨rfl, own8, ho8⟩
  have HB8 : Hid (Below w.heap.size w w8) := HB7.out.trans (ho8.below HBB.out HB7.out.size)
  have V8 : Hid (OwnJ w1.heap.size (.slice Va m Vc) v w8) := V7.out.keep ho8 NV.out
  have G8 : Hid (OwnJ w3.heap.size (.slice Ga m Gc) v w8) := G7.out.keep ho8 NG.out
  have X8 : Hid (OwnJ w2.heap.size (.slice Xa len Xc) (marksI 1 len) w8) := own8
  clear V7 X7 G7 own8 ho8 HB7 HBB HGR NV NG
  clear X8
  go_wp2_with fail
  refine (eqIntS_row HM.out G8.out.row V8.out.row HML2.out).mono ?_
  rintro e w9 ⟨rfl, hb9⟩
  have HB9 : Hid (Below w.heap.size w w9) := HB8.out.trans (hb9.mono HB8.out.size)
  have V9 : Hid (OwnJ w1.heap.size (.slice Va m Vc) v w9) := V8.out.below hb9
  have G9 : Hid (OwnJ w3.heap.size (.slice Ga m Gc) v w9) := G8.out.below hb9
  clear V8 G8
  clear hb9 HB8
  obtain ⟨gR, hgR, hBR, hneR⟩ := G9.out.pick
  have HBB : Hid (w.heap.size ≤ gR) := Nat.le_trans SZ3.out hBR
  have NV : Hid (∀ y, Va = some y → y.block ≠ gR) := fun y hy => hneR y.block (V9.out.lo y hy).2 (fun x hx => fun h => PVG.out y x hy hx h.symm)
  clear hneR hBR
  have HGR := Lib.hid hgR
  clear hgR
  go_wp2_with fail
  refine (markIntS_j HM.out G9.out 1 (by omega) gR HGR.out).mono ?_
  rintro e w10 ⟨rfl, own10, ho10⟩
  have HB10 : Hid (Below w.heap.size w w10) := HB9.out.trans (ho10.below HBB.out HB9.out.size)
  have V10 : Hid (OwnJ w1.heap.size (.slice Va m Vc) v w10) := V9.out.keep ho10 NV.out
  have G10 : Hid (OwnJ w3.heap.size (.slice Ga m Gc) (marksI 1 m) w10) := own10
  clear V9 G9 own10 ho10 HB9 HBB HGR NV
  go_wp2_with fail
  refine (heldIntS_row 1 G10.out.row (by omega)).mono ?_
  rintro e w11 ⟨rfl, hb11⟩
  have HB11 : Hid (Below w.heap.size w w11) := HB10.out.trans (hb11.mono HB10.out.size)
  have V11 : Hid (OwnJ w1.heap.size (.slice Va m Vc) v w11) := V10.out.below hb11
  have G11 : Hid (OwnJ w3.heap.size (.slice Ga m Gc) (marksI 1 m) w11) := G10.out.below hb11
  clear V10 G10
  clear hb11 HB10
  have SZ11 : Hid (w.heap.size ≤ w11.heap.size) := HB11.out.size
  go_wp2_with fail
  refine (toIntS_is a0 len cap l HZ.out (by omega) _ (HR0.out.below HB11.out)).mono ?_
  rintro e w12 ⟨Ua, Uc, rfl, own12, hb12⟩
  rw [HZ.out] at own12
  try rw [HZ.out]
  have U12 : Hid (OwnJ w11.heap.size (.slice Ua len Uc) l w12) := own12.toJ HZ.out
  have hcU : Hid (len ≤ Uc) := own12.cap_le HZ.out
  have PVU : Hid (Apt Va Ua) := apt_new V11.out U12.out
  have PGU : Hid (Apt Ga Ua) := apt_new G11.out U12.out
  have HB12 : Hid (Below w.heap.size w w12) := HB11.out.trans (hb12.mono HB11.out.size)
  have V12 : Hid (OwnJ w1.heap.size (.slice Va m Vc) v w12) := V11.out.below hb12
  have G12 : Hid (OwnJ w3.heap.size (.slice Ga m Gc) (marksI 1 m) w12) := G11.out.below hb12
  clear V11 G11
  clear own12 hb12 HB11
  have SZ12 : Hid (w.heap.size ≤ w12.heap.size) := HB12.out.size
  go_wp2_with fail
  refine (IMPL.out Ua len Uc l m HML.out v HV.out HM.out HZ.out HL.out hcU.out _ U12.out.row).mono ?_
  rintro e w13 ⟨Ha, Hc, rfl, _, own13, hb13⟩
  have H13 : Hid (OwnJ w12.heap.size (.slice Ha m Hc) v w13) := own13
  have PVH : Hid (Apt Va Ha) := apt_new V12.out H13.out
  have PGH : Hid (Apt Ga Ha) := apt_new G12.out H13.out
  have PUH : Hid (Apt Ua Ha) := apt_new U12.out H13.out
  have HB13 : Hid (Below w.heap.size w w13) := HB12.out.trans (hb13.mono HB12.out.size)
  have V13 : Hid (OwnJ w1.heap.size (.slice Va m Vc) v w13) := V12.out.below hb13
  have G13 : Hid (OwnJ w3.heap.size (.slice Ga m Gc) (marksI 1 m) w13) := G12.out.below hb13
  have U13 : Hid (OwnJ w11.heap.size (.slice Ua len Uc) l w13) := U12.out.below hb13
  clear V12 G12 U12
  clear own13 hb13 HB12
  clear U13
  go_wp2_with fail
  refine (eqIntS_row HM.out H13.out.row V13.out.row HML2.out).mono ?_
  rintro e w14 ⟨rfl, hb14⟩
  have HB14 : Hid (Below w.heap.size w w14) := HB13.out.trans (hb14.mono HB13.out.size)
  have V14 : Hid (OwnJ w1.heap.size (.slice Va m Vc) v w14) := V13.out.below hb14
  have G14 : Hid (OwnJ w3.heap.size (.slice Ga m Gc) (marksI 1 m) w14) := G13.out.below hb14
  have H14 : Hid (OwnJ w12.heap.size (.slice Ha m Hc) v w14) := H13.out.below hb14
  clear V13 G13 H13
  clear hb14 HB13
  clear H14
  go_wp2_with fail
  refine (heldIntS_row 1 G14.out.row (by omega)).mono ?_
  rintro e w15 ⟨rfl, hb15⟩
  have HB15 : Hid (Below w.heap.size w w15) := HB14.out.trans (hb15.mono HB14.out.size)
  have V15 : Hid (OwnJ w1.heap.size (.slice Va m Vc) v w15) := V14.out.below hb15
  have G15 : Hid (OwnJ w3.heap.size (.slice Ga m Gc) (marksI 1 m) w15) := G14.out.below hb15
  clear V14 G14
  clear hb15 HB14
  go_wp2_with fail
  go_ret
  exact ⟨rfl, HB15.out⟩

end Go.Proofs.Ytgmlifhiefknbaa

namespace Go.Proofs.Ytgmlifhiefknbaa
open Go.RowKit Go.PlainAid

set_option linter.unusedVariables false

set_option maxHeartbeats 8000000 in
set_option maxRecDepth 100000 in
theorem exCorrectWord_of (IMPL : Hid ICorrectWord) (a0 : Option Addr) (len cap : Nat) (zs : List Int) (w : World) (hr : IsRow .i64 w a0 len cap zs) :
    Calls Try.prog 8 #[.slice a0 len cap] w fun e w' => e = .returned (.bool true) ∧ Below w.heap.size w w' := by
  obtain ⟨hr0, hz⟩ := isRow_row hr
  have hcap : len ≤ cap := by
    rcases hr with ⟨_, h1, h2, _⟩ | ⟨x, _, h1, _⟩
    · omega
    · exact h1
  generalize zs.take len = l at hr0 hz
  clear hr
  obtain ⟨⟨vl, v1, v2⟩, hv⟩ : ∃ v, corW l = v := ⟨_, rfl⟩
  have hvl : vl.length ≤ 11 := by have := corW_le l; rw [hv] at this; exact this
  obtain ⟨m, hm⟩ : ∃ m, vl.length = m := ⟨_, rfl⟩
  have tv1 : (v1 != v1) = false := by simp
  have tv2 : (v2 != v2) = false := by simp
  have HV := Lib.hid hv
  have HM := Lib.hid hm
  have hm11 : m ≤ 11 := by omega
  have HML := Lib.hid hm11
  have HML2 : Hid ((m : Int) ≤ 9223372036854775807) := by show _ ≤ _; omega
  have t1n : decide (((1 + m : Nat) : Int) < 0) = false := decide_eq_false (by omega)
  have t1l : decide (((1 + len : Nat) : Int) < 0) = false := decide_eq_false (by omega)
  have tmm : (((1 + m : Nat) : Int) != ((1 + m : Nat) : Int)) = false := by simp
  clear hv hvl hm
  by_cases hbig : (1048576 : Int) < (len : Int)
  · go_enter Try.func8, Try.ntmps8
    go_wp2
    go_ret
    exact ⟨rfl, Below.refl _ _⟩
  have HZ := Lib.hid hz
  have HR0 := Lib.hid hr0
  have HL : Hid (len ≤ 3000000) := by show len ≤ 3000000; omega
  have HL2 : Hid ((len : Int) ≤ 9223372036854775807) := by show _ ≤ _; omega
  clear hz hr0
  go_enter Try.func8, Try.ntmps8
  have HB0 : Hid (Below w.heap.size w w) := Below.refl _ _
  have SZ0 : Hid (w.heap.size ≤ w.heap.size) := HB0.out.size
  go_wp2_with fail
  refine (toIntS_is a0 len cap l HZ.out (by omega) _ (HR0.out.below HB0.out)).mono ?_
  rintro e w1 ⟨Aa, Ac, rfl, own1, hb1⟩
  rw [HZ.out] at own1
  try rw [HZ.out]
  have A1 : Hid (OwnJ w.heap.size (.slice Aa len Ac) l w1) := own1.toJ HZ.out
  have hcA : Hid (len ≤ Ac) := own1.cap_le HZ.out
  have HB1 : Hid (Below w.heap.size w w1) := HB0.out.trans (hb1.mono HB0.out.size)
  clear own1 hb1 HB0
  have SZ1 : Hid (w.heap.size ≤ w1.heap.size) := HB1.out.size
  go_wp2_with fail
  refine (specCorrectWord_is HZ.out A1.out.row (vl, v1, v2) HV.out HL2.out).mono ?_
  rintro e w2 ⟨Va, nn, Vc, hnn, rfl, own2, hb2⟩
  obtain rfl : m = nn := HM.out.symm.trans hnn
  clear hnn
  have V2 : Hid (OwnJ w1.heap.size (.slice Va m Vc) vl w2) := own2.toJ HM.out
  have PAV : Hid (Apt Aa Va) := apt_new A1.out V2.out
  have HB2 : Hid (Below w.heap.size w w2) := HB1.out.trans (hb2.mono HB1.out.size)
  have A2 : Hid (OwnJ w.heap.size (.slice Aa len Ac) l w2) := A1.out.below hb2
  clear A1
  clear own2 hb2 HB1
  clear A2
  have SZ2 : Hid (w.heap.size ≤ w2.heap.size) := HB2.out.size
  go_wp2_with fail
  refine (toIntS_is a0 len cap l HZ.out (by omega) _ (HR0.out.below HB2.out)).mono ?_
  rintro e w3 ⟨Xa, Xc, rfl, own3, hb3⟩
  rw [HZ.out] at own3
  try rw [HZ.out]
  have X3 : Hid (OwnJ w2.heap.size (.slice Xa len Xc) l w3) := own3.toJ HZ.out
  have hcX : Hid (len ≤ Xc) := own3.cap_le HZ.out
  have PVX : Hid (Apt Va Xa) := apt_new V2.out X3.out
  have HB3 : Hid (Below w.heap.size w w3) := HB2.out.trans (hb3.mono HB2.out.size)
  have V3 : Hid (OwnJ w1.heap.size (.slice Va m Vc) vl w3) := V2.out.below hb3
  clear V2
  clear own3 hb3 HB2
  have SZ3 : Hid (w.heap.size ≤ w3.heap.size) := HB3.out.size
  go_wp2_with fail
  refine (IMPL.out Xa len Xc l m HML.out (vl, v1, v2) HV.out HM.out HZ.out HL.out hcX.out _ X3.out.row).mono ?_
  rintro e w4 ⟨Ga, Gc, rfl, _, own4, hb4⟩
  have G4 : Hid (OwnJ w3.heap.size (.slice Ga m Gc) vl w4) := own4
  have PVG : Hid (Apt Va Ga) := apt_new V3.out G4.out
  have PXG : Hid (Apt Xa Ga) := apt_new X3.out G4.out
  have HB4 : Hid (Below w.heap.size w w4) := HB3.out.trans (hb4.mono HB3.out.size)
  have V4 : Hid (OwnJ w1.heap.size (.slice Va m Vc) vl w4) := V3.out.below hb4
  have X4 : Hid (OwnJ w2.heap.size (.slice Xa len Xc) l w4) := X3.out.below hb4
  clear V3 X3
  clear own4 hb4 HB3
  go_wp2_with fail
  refine (eqIntS_row HM.out G4.out.row V4.out.row HML2.out).mono ?_
  rintro e w5 ⟨rfl, hb5⟩
  have HB5 : Hid (Below w.heap.size w w5) := HB4.out.trans (hb5.mono HB4.out.size)
  have V5 : Hid (OwnJ w1.heap.size (.slice Va m Vc) vl w5) := V4.out.below hb5
  have X5 : Hid (OwnJ w2.heap.size (.slice Xa len Xc) l w5) := X4.out.below hb5
  have G5 : Hid (OwnJ w3.heap.size (.slice Ga m Gc) vl w5) := G4.out.below hb5
  clear V4 X4 G4
  clear hb5 HB4
  have SZ5 : Hid (w.heap.size ≤ w5.heap.size) := HB5.out.size
  go_wp2_with fail
  refine (toIntS_is a0 len cap l HZ.out (by omega) _ (HR0.out.below HB5.out)).mono ?_
  rintro e w6 ⟨Ta, Tc, rfl, own6, hb6⟩
  rw [HZ.out] at own6
  try rw [HZ.out]
  have T6 : Hid (OwnJ w5.heap.size (.slice Ta len Tc) l w6) := own6.toJ HZ.out
  have hcT : Hid (len ≤ Tc) := own6.cap_le HZ.out
  have PVT : Hid (Apt Va Ta) := apt_new V5.out T6.out
  have PXT : Hid (Apt Xa Ta) := apt_new X5.out T6.out
  have PGT : Hid (Apt Ga Ta) := apt_new G5.out T6.out
  have HB6 : Hid (Below w.heap.size w w6) := HB5.out.trans (hb6.mono HB5.out.size)
  have V6 : Hid (OwnJ w1.heap.size (.slice Va m Vc) vl w6) := V5.out.below hb6
  have X6 : Hid (OwnJ w2.heap.size (.slice Xa len Xc) l w6) := X5.out.below hb6
  have G6 : Hid (OwnJ w3.heap.size (.slice Ga m Gc) vl w6) := G5.out.below hb6
  clear V5 X5 G5
  clear own6 hb6 HB5
  go_wp2_with fail
  refine (eqIntS_row HZ.out X6.out.row T6.out.row HL2.out).mono ?_
  rintro e w7 ⟨rfl, hb7⟩
  have HB7 : Hid (Below w.heap.size w w7) := HB6.out.trans (hb7.mono HB6.out.size)
  have V7 : Hid (OwnJ w1.heap.size (.slice Va m Vc) vl w7) := V6.out.below hb7
  have X7 : Hid (OwnJ w2.heap.size (.slice Xa len Xc) l w7) := X6.out.below hb7
  have G7 : Hid (OwnJ w3.heap.size (.slice Ga m Gc) vl w7) := G6.out.below hb7
  have T7 : Hid (OwnJ w5.heap.size (.slice Ta len Tc) l w7) := T6.out.below hb7
  clear V6 X6 G6 T6
  clear hb7 HB6
  clear T7
  obtain ⟨gR, hgR, hBR, hneR⟩ := X7.out.pick
  have HBB : Hid (w.heap.size ≤ gR) := Nat.le_trans SZ2.out hBR
  have NV : Hid (∀ y, Va = some y → y.block ≠ gR) := fun y hy => hneR y.block (V7.out.lo y hy).2 (fun x hx => fun h => PVX.out y x hy hx h.symm)
  have NG : Hid (∀ y, Ga = some y → y.block ≠ gR) := fun y hy => hneR y.block (G7.out.lo y hy).2 (fun x hx => PXG.out x y hx hy)
  clear hneR hBR
  have HGR := Lib.hid hgR
  clear hgR
  go_wp2_with fail
  refine (markIntS_j HZ.out X7.out 1 (by omega) gR HGR.out).mono ?_
  rintro e w8 ⟨rfl, own8, ho8⟩
  have HB8 : Hid (Below w.heap.size w w8) := HB7.out.trans (ho8.below HBB.out HB7.out.size)
  have V8 : Hid (OwnJ w1.heap.size (.slice Va m Vc) vl w8) := V7.out.keep ho8 NV.out
  have G8 : Hid (OwnJ w3.heap.size (.slice Ga m Gc) vl w8) := G7.out.keep ho8 NG.out
  have X8 : Hid (OwnJ w2.heap.size (.slice Xa len Xc) (marksI 1 len) w8) := own8
  clear V7 X7 G7 own8 ho8 HB7 HBB HGR NV NG
  clear X8
  go_wp2_with fail
  refine (eqIntS_row HM.out G8.out.row V8.out.row HML2.out).mono ?_
  rintro e w9 ⟨rfl, hb9⟩
  have HB9 : Hid (Below w.heap.size w w9) := HB8.out.trans (hb9.mono HB8.out.size)
  have V9 : Hid (OwnJ w1.heap.size (.slice Va m Vc) vl w9) := V8.out.below hb9
  have G9 : Hid (OwnJ w3.heap.size (.slice Ga m Gc) vl w9) := G8.out.below hb9
  clear V8 G8
  clear hb9 HB8
  obtain ⟨gR, hgR, hBR, hneR⟩ := G9.out.pick
  have HBB : Hid (w.heap.size ≤ gR) := Nat.le_trans SZ3.out hBR
  have NV : Hid (∀ y, Va = some y → y.block ≠ gR) := fun y hy => hneR y.block (V9.out.lo y hy).2 (fun x hx => fun h => PVG.out y x hy hx h.symm)
  clear hneR hBR
  have HGR := Lib.hid hgR
  clear hgR
  go_wp2_with fail
  refine (markIntS_j HM.out G9.out 1 (by omega) gR HGR.out).mono ?_
  rintro e w10 ⟨rfl, own10, ho10⟩
  have HB10 : Hid (Below w.heap.size w w10) := HB9.out.trans (ho10.below HBB.out HB9.out.size)
  have V10 : Hid (OwnJ w1.heap.size (.slice Va m Vc) vl w10) := V9.out.keep ho10 NV.out
  have G10 : Hid (OwnJ w3.heap.size (.slice Ga m Gc) (marksI 1 m) w10) := own10
  clear V9 G9 own10 ho10 HB9 HBB HGR NV
  go_wp2_with fail
  refine (heldIntS_row 1 G10.out.row (by omega)).mono ?_
  rintro e w11 ⟨rfl, hb11⟩
  have HB11 : Hid (Below w.heap.size w w11) := HB10.out.trans (hb11.mono HB10.out.size)
  have V11 : Hid (OwnJ w1.heap.size (.slice Va m Vc) vl w11) := V10.out.below hb11
  have G11 : Hid (OwnJ w3.heap.size (.slice Ga m Gc) (marksI 1 m) w11) := G10.out.below hb11
  clear V10 G10
  clear hb11 HB10
  have SZ11 : Hid (w.heap.size ≤ w11.heap.size) := HB11.out.size
  go_wp2_with fail
  refine (toIntS_is a0 len cap l HZ.out (by omega) _ (HR0.out.below HB11.out)).mono ?_
  rintro e w12 ⟨Ua, Uc, rfl, own12, hb12⟩
  rw [HZ.out] at own12
  try rw [HZ.out]
  have U12 : Hid (OwnJ w11.heap.size (.slice Ua len Uc) l w12) := own12.toJ HZ.out
  have hcU : Hid (len ≤ Uc) := own12.cap_le HZ.out
  have PVU : Hid (Apt Va Ua) := apt_new V11.out U12.out
  have PGU : Hid (Apt Ga Ua) := apt_new G11.out U12.out
  have HB12 : Hid (Below w.heap.size w w12) := HB11.out.trans (hb12.mono HB11.out.size)
  have V12 : Hid (OwnJ w1.heap.size (.slice Va m Vc) vl w12) := V11.out.below hb12
  have G12 : Hid (OwnJ w3.heap.size (.slice Ga m Gc) (marksI 1 m) w12) := G11.out.below hb12
  clear V11 G11
  clear own12 hb12 HB11
  have SZ12 : Hid (w.heap.size ≤ w12.heap.size) := HB12.out.size
  go_wp2_with fail
  refine (IMPL.out Ua len Uc l m HML.out (vl, v1, v2) HV.out HM.out HZ.out HL.out hcU.out _ U12.out.row).mono ?_
  rintro e w13 ⟨Ha, Hc, rfl, _, own13, hb13⟩
  have H13 : Hid (OwnJ w12.heap.size (.slice Ha m Hc) vl w13) := own13
  have PVH : Hid (Apt Va Ha) := apt_new V12.out H13.out
  have PGH : Hid (Apt Ga Ha) := apt_new G12.out H13.out
  have PUH : Hid (Apt Ua Ha) := apt_new U12.out H13.out
  have HB13 : Hid (Below w.heap.size w w13) := HB12.out.trans (hb13.mono HB12.out.size)
  have V13 : Hid (OwnJ w1.heap.size (.slice Va m Vc) vl w13) := V12.out.below hb13
  have G13 : Hid (OwnJ w3.heap.size (.slice Ga m Gc) (marksI 1 m) w13) := G12.out.below hb13
  have U13 : Hid (OwnJ w11.heap.size (.slice Ua len Uc) l w13) := U12.out.below hb13
  clear V12 G12 U12
  clear own13 hb13 HB12
  clear U13
  go_wp2_with fail
  refine (eqIntS_row HM.out H13.out.row V13.out.row HML2.out).mono ?_
  rintro e w14 ⟨rfl, hb14⟩
  have HB14 : Hid (Below w.heap.size w w14) := HB13.out.trans (hb14.mono HB13.out.size)
  have V14 : Hid (OwnJ w1.heap.size (.slice Va m Vc) vl w14) := V13.out.below hb14
  have G14 : Hid (OwnJ w3.heap.size (.slice Ga m Gc) (marksI 1 m) w14) := G13.out.below hb14
  have H14 : Hid (OwnJ w12.heap.size (.slice Ha m Hc) vl w14) := H13.out.below hb14
  clear V13 G13 H13
  clear hb14 HB13
  clear H14
  go_wp2_with fail
  refine (heldIntS_row 1 G14.out.row (by omega)).mono ?_
  rintro e w15 ⟨rfl, hb15⟩
  have HB15 : Hid (Below w.heap.size w w15) := HB14.out.trans (hb15.mono HB14.out.size)
  have V15 : Hid (OwnJ w1.heap.size (.slice Va m Vc) vl w15) := V14.out.below hb15
  have G15 : Hid (OwnJ w3.heap.size (.slice Ga m Gc) (marksI 1 m) w15) := G14.out.below hb15
  clear V14 G14
  clear hb15 HB14
  go_wp2_with fail
  go_ret
  exact ⟨rfl, HB15.out⟩

end Go.Proofs.Ytgmlifhiefknbaa

namespace Go.Proofs.Ytgmlifhiefknbaa
open Go.RowKit Go.PlainAid

set_option linter.unusedVariables false

set_option maxHeartbeats 2000000 in
theorem sameIntsC_is {a b : Option Addr} {ca cb : Nat} {l : List Int} {w : World} {n : Nat} (hn : l.length = n) (ha : RowI w a l) (hb : RowI w b l) (hl : (n : Int) ≤ 9223372036854775807) :
    Calls Try.prog 14 #[.slice a n ca, .slice b n cb] w (Gives (.bool true) w) := by
  have HN := Lib.hid hn
  have HA := Lib.hid ha
  have HB := Lib.hid hb
  clear hn ha hb
  go_enter Try.func14, Try.ntmps14
  go_wp2_with fail
  go_loopw [5] (fun i wr => ∃ k : Nat, k ≤ n ∧ i = .int .i64 k ∧ Below w.heap.size w wr) (fun i _ => n - (intOf i).toNat)
  case atStart => exact ⟨0, Nat.zero_le _, rfl, Below.refl _ _⟩
  case round =>
    obtain ⟨k, hk, rfl, hbr⟩ := hrel
    have HBR := Lib.hid hbr
    clear hbr
    by_cases hlt : k < n
    · obtain ⟨ba, oa, rfl, ha0⟩ := (HA.out.below HBR.out).at (k := k) (by rw [HN.out]; exact hlt)
      obtain ⟨bb, ob, rfl, hb0⟩ := (HB.out.below HBR.out).at (k := k) (by rw [HN.out]; exact hlt)
      generalize l.getD k 0 = r at ha0 hb0
      have za0 := fun q : Later wr => q.cell ha0
      have zb0 := fun q : Later wr => q.cell hb0
      have te : (r != r) = false := by simp
      clear ha0 hb0
      go_wp2_with fail
      refine wp_region_later (by kernel_rfl) (by kernel_rfl) ?_
      repeat (go_big_quiet_step (fail))
      refine wpQuiet_nil ?_
      rintro w2 ⟨zz, hz⟩
      have HB2 : Hid (Below w.heap.size w w2) := HBR.out.trans ((hz ▸ zz.ok : Below wr.heap.size wr w2).mono HBR.out.size)
      clear za0 zb0 hz zz
      go_wp2
      go_roundw
      case rel => exact ⟨k + 1, by omega, by go_num, HB2.out⟩
      case measure => simp [intOf]; omega
    · go_wp2_with fail
      go_ret
      exact ⟨rfl, HBR.out⟩

theorem OwnJ.at0 {B n c g : Nat} {l : List Int} {w : World} (h : OwnJ B (.slice (some ⟨g, 0, none⟩) n c) l w) {k : Nat} (hk : k < l.length) :
    w.cell? ⟨g, k, none⟩ = some (.int .i64 (l.getD k 0)) ∧ w.frozen? ⟨g, k, none⟩ = false ∧ B ≤ g ∧ g < w.heap.size := by
  obtain ⟨g', o, e, h1, h2, h3, h4⟩ := h.at hk
  cases e
  rw [Nat.zero_add] at h1 h2
  exact ⟨h1, h2, h3, h4⟩

theorem OwnJ.stored0 {B n c g : Nat} {l : List Int} {w : World} (h : OwnJ B (.slice (some ⟨g, 0, none⟩) n c) l w) (hl : l.length = n) {k : Nat} (hk : k < n) (x : Int) : OwnJ B (.slice (some ⟨g, 0, none⟩) n c) (l.set k x) (w.setCell ⟨g, k, none⟩ (.int .i64 x)) := by
  have := h.stored hl hk x
  rwa [Nat.zero_add] at this

theorem place_in {l : List Int} (hl : l.length = 12) (hp : ∀ x ∈ l, 0 ≤ x ∧ x ≤ 9999) (k : Nat) (hk : k < 12) : 0 ≤ l.getD k 0 ∧ l.getD k 0 ≤ 9999 := by
  rw [List.getD_eq_getElem?_getD, List.getElem?_eq_getElem (show k < l.length by omega)]
  exact hp _ (List.getElem_mem _)

theorem tmodN {p : Int} (h : 0 ≤ p) (m : Nat) (hm : 0 < m) : ∃ n : Nat, p.tmod (m : Int) = (n : Int) ∧ n < m := by
  rw [Int.tmod_eq_emod_of_nonneg h]
  have h1 := Int.emod_nonneg p (show (m : Int) ≠ 0 by omega)
  have h2 := Int.emod_lt_of_pos p (show (0 : Int) < (m : Int) by omega)
  exact ⟨(p % (m : Int)).toNat, by omega, by omega⟩

end Go.Proofs.Ytgmlifhiefknbaa

namespace Go.Proofs.Ytgmlifhiefknbaa
open Go.RowKit Go.PlainAid

set_option linter.unusedVariables false

set_option maxHeartbeats 8000000 in
set_option maxRecDepth 100000 in
theorem fnDetects_of (WOK : Hid IWordOk) (COR : Hid ICorrectWord) (a0 : Option Addr) (len cap : Nat) (zs : List Int) (w : World) (hr : IsRow .u8 w a0 len cap zs) :
    Calls Try.prog 3 #[.slice a0 len cap] w fun e w' => e = .returned (.bool true) ∧ Below w.heap.size w w' := by
  have hl := hr.len_le
  unfold maxLen at hl
  by_cases hbig : (1048576 : Int) < (len : Int)
  · go_enter Try.func3, Try.ntmps3
    go_wp2_with (go_at_call 9; refine (big_any _ _ _ _ (by omega)).mono ?_; rintro e w' ⟨rfl, rfl⟩)
    go_ret
    exact ⟨rfl, Below.refl _ _⟩
  have HR := Lib.hid hr
  clear hr
  go_enter Try.func3, Try.ntmps3
  go_wp2_with (go_at_call 9; refine (big_any _ _ _ _ (by omega)).mono ?_; rintro e w' ⟨rfl, rfl⟩)
  have HB0 : Hid (Below w.heap.size w w) := Below.refl _ _
  have SZ0 : Hid (w.heap.size ≤ w.heap.size) := HB0.out.size
  refine (drawData_any (HR.out.below (fun x h => HR.out.lt h) HB0.out)).mono ?_
  rintro e w1 ⟨Dg, Dc, l, rfl, hll, hel, own1, hb1⟩
  have hcD : Hid (8 ≤ Dc) := own1.cap_le hll
  have HLl := Lib.hid hll
  have HEl := Lib.hid hel
  clear hll hel
  have D1 : Hid (OwnJ w.heap.size (.slice (some ⟨Dg, 0, none⟩) 8 Dc) l w1) := own1.toJ HLl.out
  have HB1 : Hid (Below w.heap.size w w1) := HB0.out.trans (hb1.mono HB0.out.size)
  clear own1 hb1 HB0
  obtain ⟨wl, hwl⟩ : ∃ u, cwI l = u := ⟨_, rfl⟩
  have HENC : Hid (encI l = wl) := by show _ = _; rw [← hwl]; exact cd_enc HLl.out HEl.out
  have HW11 : Hid (wl.length = 11) := by show _ = _; rw [← hwl]; exact cd_length HLl.out
  have SZ1 : Hid (w.heap.size ≤ w1.heap.size) := HB1.out.size
  go_wp2_with fail
  refine (specEncodeSymbols_is HLl.out D1.out.row wl HENC.out (by decide)).mono ?_
  rintro e w2 ⟨Ea, Ec, rfl, own2', hb2⟩
  rw [HW11.out] at own2'
  try rw [HW11.out]
  obtain ⟨Eg, rfl, _, _, _, _⟩ := own2'.at (k := 0) (by rw [HW11.out]; decide)
  have own2 := own2'.toJ HW11.out
  have hcE : Hid (11 ≤ Ec) := own2'.cap_le HW11.out
  clear own2'
  have E2 : Hid (OwnJ w1.heap.size (.slice (some ⟨Eg, 0, none⟩) 11 Ec) wl w2) := own2
  have PDE : Hid (Apt (some ⟨Dg, 0, none⟩) (some ⟨Eg, 0, none⟩)) := apt_new D1.out E2.out
  have HB2 : Hid (Below w.heap.size w w2) := HB1.out.trans (hb2.mono HB1.out.size)
  have D2 : Hid (OwnJ w.heap.size (.slice (some ⟨Dg, 0, none⟩) 8 Dc) l w2) := D1.out.below hb2
  clear D1
  clear own2 hb2 HB1
  clear D2
  have SZ2 : Hid (w.heap.size ≤ w2.heap.size) := HB2.out.size
  go_wp2_with fail
  refine (drawPlaces_any (HR.out.below (fun x h => HR.out.lt h) HB2.out)).mono ?_
  rintro e w3 ⟨Pg, Pc, lp, rfl, hlp, hpo, own3, hb3⟩
  have HLP := Lib.hid hlp
  have HPO := Lib.hid hpo
  clear hlp hpo
  have P3 : Hid (OwnJ w2.heap.size (.slice (some ⟨Pg, 0, none⟩) 12 Pc) lp w3) := own3.toJ HLP.out
  have PEP : Hid (Apt (some ⟨Eg, 0, none⟩) (some ⟨Pg, 0, none⟩)) := apt_new E2.out P3.out
  have HB3 : Hid (Below w.heap.size w w3) := HB2.out.trans (hb3.mono HB2.out.size)
  have E3 : Hid (OwnJ w1.heap.size (.slice (some ⟨Eg, 0, none⟩) 11 Ec) wl w3) := E2.out.below hb3
  clear E2
  clear own3 hb3 HB2
  obtain ⟨p0, hp0⟩ : ∃ p, lp.getD 0 0 = p := ⟨_, rfl⟩
  obtain ⟨p1, hp1⟩ : ∃ p, lp.getD 1 0 = p := ⟨_, rfl⟩
  obtain ⟨p2, hp2⟩ : ∃ p, lp.getD 2 0 = p := ⟨_, rfl⟩
  obtain ⟨p3, hp3⟩ : ∃ p, lp.getD 3 0 = p := ⟨_, rfl⟩
  obtain ⟨i, ei, hi⟩ := tmodN (p := p0) (by rw [← hp0]; exact (place_in HLP.out HPO.out 0 (by decide)).1) 11 (by decide)
  obtain ⟨r, er, hr⟩ := tmodN (p := p1) (by rw [← hp1]; exact (place_in HLP.out HPO.out 1 (by decide)).1) 10 (by decide)
  obtain ⟨x, ex, hx⟩ := tmodN (p := p2) (by rw [← hp2]; exact (place_in HLP.out HPO.out 2 (by decide)).1) 15 (by decide)
  obtain ⟨z, ez, hz⟩ := tmodN (p := p3) (by rw [← hp3]; exact (place_in HLP.out HPO.out 3 (by decide)).1) 15 (by decide)
  obtain ⟨k, hkd⟩ : ∃ k, (i + 1 + r) % 11 = k := ⟨_, rfl⟩
  have hk : k < 11 := by omega
  have hik : i ≠ k := by omega
  have ek : ((i : Int) + 1 + (r : Int)).tmod 11 = (k : Int) := by rw [Int.tmod_eq_emod_of_nonneg (by omega)]; omega
  obtain ⟨y, v, hy, hv, hyi, hvk, hcor, hbad⟩ := cd_two HLl.out HEl.out hi hk hik hx hz
  rw [hwl] at hyi hvk hcor hbad
  have HXY : Hid (bits .xor .i64 (y : Int) (1 + (x : Int)) = ((y ^^^ (1 + x) : Nat) : Int)) := by
    show _ = _
    rw [show (1 : Int) + (x : Int) = ((1 + x : Nat) : Int) by omega]
    exact i64_xor_nat _ _ (by omega) (by omega)
  generalize y ^^^ (1 + x) = yx at HXY hvk hcor hbad
  have HXV : Hid (bits .xor .i64 (v : Int) (1 + (z : Int)) = ((v ^^^ (1 + z) : Nat) : Int)) := by
    show _ = _
    rw [show (1 : Int) + (z : Int) = ((1 + z : Nat) : Int) by omega]
    exact i64_xor_nat _ _ (by omega) (by omega)
  generalize v ^^^ (1 + z) = vz at HXV hcor hbad
  obtain ⟨m1, hm1⟩ : ∃ u, wl.set i (yx : Int) = u := ⟨_, rfl⟩
  rw [hm1] at hvk hcor hbad
  obtain ⟨m2, hm2⟩ : ∃ u, m1.set k (vz : Int) = u := ⟨_, rfl⟩
  rw [hm2] at hcor hbad
  have HM1L : Hid (m1.length = 11) := by show _ = _; rw [← hm1, List.length_set]; exact HW11.out
  have HM2L : Hid (m2.length = 11) := by show _ = _; rw [← hm2, List.length_set]; exact HM1L.out
  have HM1 := Lib.hid hm1
  have HM2 := Lib.hid hm2
  have HYI := Lib.hid hyi
  have HVK := Lib.hid hvk
  have HCOR := Lib.hid hcor
  have HBAD : Hid (decide (goodW m2) = false) := decide_eq_false hbad
  have HI := Lib.hid hi
  have HK := Lib.hid hk
  have HXB := Lib.hid hx
  have HZB := Lib.hid hz
  have HRB := Lib.hid hr
  have EI : Hid (p0.tmod 11 = (i : Int)) := ei
  have ER : Hid (p1.tmod 10 = (r : Int)) := er
  have EXX : Hid (p2.tmod 15 = (x : Int)) := ex
  have EZ : Hid (p3.tmod 15 = (z : Int)) := ez
  have EK := Lib.hid ek
  have HP0 := Lib.hid hp0
  have HP1 := Lib.hid hp1
  have HP2 := Lib.hid hp2
  have HP3 := Lib.hid hp3
  clear hp0 hp1 hp2 hp3 hi hk hx hz hr ei er ex ez ek hkd hik hyi hvk hcor hbad hm1 hm2 hy hv hwl
  obtain ⟨ce, cf, cB, cS⟩ := E3.out.at0 (k := i) (by rw [HW11.out]; exact HI.out)
  rw [HYI.out] at ce
  have pe0 := (P3.out.at0 (k := 0) (by rw [HLP.out]; decide)).1
  rw [HP0.out] at pe0
  have pe1 := (P3.out.at0 (k := 1) (by rw [HLP.out]; decide)).1
  rw [HP1.out] at pe1
  have pe2 := (P3.out.at0 (k := 2) (by rw [HLP.out]; decide)).1
  rw [HP2.out] at pe2
  have ei := EI.out
  have er := ER.out
  have ek := EK.out
  have ex := EXX.out
  have hi := HI.out
  have hi' : (i : Int) < 11 := by omega
  have hx15 := HXB.out
  have hr10 := HRB.out
  have hk := HK.out
  have wi : IntKind.i64.wrap (i : Int) = (i : Int) := IntWalk.i64_in _ (by omega)
  have wi1 : IntKind.i64.wrap ((i : Int) + 1) = (i : Int) + 1 := IntWalk.i64_in _ (by omega)
  have wr' : IntKind.i64.wrap (r : Int) = (r : Int) := IntWalk.i64_in _ (by omega)
  have wir : IntKind.i64.wrap ((i : Int) + 1 + (r : Int)) = (i : Int) + 1 + (r : Int) := IntWalk.i64_in _ (by omega)
  have wk : IntKind.i64.wrap (k : Int) = (k : Int) := IntWalk.i64_in _ (by omega)
  have wx : IntKind.i64.wrap (x : Int) = (x : Int) := IntWalk.i64_in _ (by omega)
  have w1x : IntKind.i64.wrap (1 + (x : Int)) = 1 + (x : Int) := IntWalk.i64_in _ (by omega)
  have hxx := HXY.out
  go_wp2_with fail
  have SZ3 : Hid (w.heap.size ≤ w3.heap.size) := HB3.out.size
  have z0 := fun q : Later w3 => q.cell ce
  have z1 := fun q : Later w3 => q.cell pe0
  have z2 := fun q : Later w3 => q.cell pe1
  have z3 := fun q : Later w3 => q.cell pe2
  refine wp_region_later_tail 12 (by kernel_rfl) (by kernel_rfl) ?_
  simp only [List.take_succ_cons, List.take_zero, List.drop_succ_cons, List.drop_zero]
  repeat (go_big_quiet_step (fail))
  refine wpQuiet_nil ?_
  rintro w4 ⟨zz, rfl⟩
  have hb4 := zz.ok
  clear z0 z1 z2 z3 ce pe0 pe1 pe2
  have HB4 : Hid (Below w.heap.size w zz.to) := HB3.out.trans (hb4.mono HB3.out.size)
  have E4 : Hid (OwnJ w1.heap.size (.slice (some ⟨Eg, 0, none⟩) 11 Ec) wl zz.to) := E3.out.below hb4
  have P4 : Hid (OwnJ w2.heap.size (.slice (some ⟨Pg, 0, none⟩) 12 Pc) lp zz.to) := P3.out.below hb4
  clear E3 P3
  clear hb4 HB3
  generalize zz.to = w4 at E4 P4 HB4 ⊢
  clear cf cB cS ei er ek ex wi1 wr' wir wx w1x hxx
  obtain ⟨ce, cf, cB, cS⟩ := E4.out.at0 (k := i) (by rw [HW11.out]; exact HI.out)
  have E5 : Hid (OwnJ w1.heap.size (.slice (some ⟨Eg, 0, none⟩) 11 Ec) (wl.set i (yx : Int)) (w4.setCell ⟨Eg, i, none⟩ (.int .i64 (yx : Int)))) := E4.out.stored0 HW11.out HI.out _
  have P5 : Hid (OwnJ w2.heap.size (.slice (some ⟨Pg, 0, none⟩) 12 Pc) lp (w4.setCell ⟨Eg, i, none⟩ (.int .i64 (yx : Int)))) := P4.out.set (p := ⟨Eg, i, none⟩) (fun x hx => fun e => PEP.out ⟨Eg, 0, none⟩ x rfl hx e.symm) _
  have HB5 : Hid (Below w.heap.size w (w4.setCell ⟨Eg, i, none⟩ (.int .i64 (yx : Int)))) := HB4.out.setCell (Nat.le_trans SZ1.out cB) _
  clear E4 P4 HB4 cB cS
  go_wp2_with fail
  clear ce cf
  generalize (w4.setCell ⟨Eg, i, none⟩ (.int .i64 (yx : Int))) = w5 at E5 P5 HB5 ⊢
  rw [HM1.out] at E5
  obtain ⟨ce, cf, cB, cS⟩ := E5.out.at0 (k := k) (by rw [HM1L.out]; exact HK.out)
  rw [HVK.out] at ce
  have pe3 := (P5.out.at0 (k := 3) (by rw [HLP.out]; decide)).1
  rw [HP3.out] at pe3
  have ez := EZ.out
  have hk' : (k : Int) < 11 := by omega
  have hz15 := HZB.out
  have wz : IntKind.i64.wrap (z : Int) = (z : Int) := IntWalk.i64_in _ (by omega)
  have w1z : IntKind.i64.wrap (1 + (z : Int)) = 1 + (z : Int) := IntWalk.i64_in _ (by omega)
  have hzz := HXV.out
  have SZ5 : Hid (w.heap.size ≤ w5.heap.size) := HB5.out.size
  have z0 := fun q : Later w5 => q.cell ce
  have z1 := fun q : Later w5 => q.cell pe3
  refine wp_region_later_tail 12 (by kernel_rfl) (by kernel_rfl) ?_
  simp only [List.take_succ_cons, List.take_zero, List.drop_succ_cons, List.drop_zero]
  repeat (go_big_quiet_step (fail))
  refine wpQuiet_nil ?_
  rintro w6 ⟨zz, rfl⟩
  have hb6 := zz.ok
  clear z0 z1 ce pe3
  have HB6 : Hid (Below w.heap.size w zz.to) := HB5.out.trans (hb6.mono HB5.out.size)
  have E6 : Hid (OwnJ w1.heap.size (.slice (some ⟨Eg, 0, none⟩) 11 Ec) m1 zz.to) := E5.out.below hb6
  have P6 : Hid (OwnJ w2.heap.size (.slice (some ⟨Pg, 0, none⟩) 12 Pc) lp zz.to) := P5.out.below hb6
  clear E5 P5
  clear hb6 HB5
  generalize zz.to = w6 at E6 P6 HB6 ⊢
  clear cf cB cS ez wz w1z hzz
  obtain ⟨ce, cf, cB, cS⟩ := E6.out.at0 (k := k) (by rw [HM1L.out]; exact HK.out)
  have E7 : Hid (OwnJ w1.heap.size (.slice (some ⟨Eg, 0, none⟩) 11 Ec) (m1.set k (vz : Int)) (w6.setCell ⟨Eg, k, none⟩ (.int .i64 (vz : Int)))) := E6.out.stored0 HM1L.out HK.out _
  have P7 : Hid (OwnJ w2.heap.size (.slice (some ⟨Pg, 0, none⟩) 12 Pc) lp (w6.setCell ⟨Eg, k, none⟩ (.int .i64 (vz : Int)))) := P6.out.set (p := ⟨Eg, k, none⟩) (fun x hx => fun e => PEP.out ⟨Eg, 0, none⟩ x rfl hx e.symm) _
  have HB7 : Hid (Below w.heap.size w (w6.setCell ⟨Eg, k, none⟩ (.int .i64 (vz : Int)))) := HB6.out.setCell (Nat.le_trans SZ1.out cB) _
  clear E6 P6 HB6 cB cS
  go_wp2_with fail
  clear ce cf
  generalize (w6.setCell ⟨Eg, k, none⟩ (.int .i64 (vz : Int))) = w7 at E7 P7 HB7 ⊢
  rw [HM2.out] at E7
  have SZ7 : Hid (w.heap.size ≤ w7.heap.size) := HB7.out.size
  refine (COR.out (some ⟨Eg, 0, none⟩) 11 Ec m2 11 (by decide) (m2, 2, -1) HCOR.out HM2L.out HM2L.out (by decide) hcE.out _ E7.out.row).mono ?_
  rintro e w8 ⟨Xa, Xc, rfl, hcX', own8, hb8⟩
  have hcX := Lib.hid hcX'
  clear hcX'
  have X8 : Hid (OwnJ w7.heap.size (.slice Xa 11 Xc) m2 w8) := own8
  have PEX : Hid (Apt (some ⟨Eg, 0, none⟩) Xa) := apt_new E7.out X8.out
  have PPX : Hid (Apt (some ⟨Pg, 0, none⟩) Xa) := apt_new P7.out X8.out
  have HB8 : Hid (Below w.heap.size w w8) := HB7.out.trans (hb8.mono HB7.out.size)
  have E8 : Hid (OwnJ w1.heap.size (.slice (some ⟨Eg, 0, none⟩) 11 Ec) m2 w8) := E7.out.below hb8
  have P8 : Hid (OwnJ w2.heap.size (.slice (some ⟨Pg, 0, none⟩) 12 Pc) lp w8) := P7.out.below hb8
  clear E7 P7
  clear own8 hb8 HB7
  go_wp2_with fail
  refine (sameIntsC_is HM2L.out X8.out.row E8.out.row (by decide)).mono ?_
  rintro e w9 ⟨rfl, hb9⟩
  have HB9 : Hid (Below w.heap.size w w9) := HB8.out.trans (hb9.mono HB8.out.size)
  have E9 : Hid (OwnJ w1.heap.size (.slice (some ⟨Eg, 0, none⟩) 11 Ec) m2 w9) := E8.out.below hb9
  have P9 : Hid (OwnJ w2.heap.size (.slice (some ⟨Pg, 0, none⟩) 12 Pc) lp w9) := P8.out.below hb9
  have X9 : Hid (OwnJ w7.heap.size (.slice Xa 11 Xc) m2 w9) := X8.out.below hb9
  clear E8 P8 X8
  clear hb9 HB8
  go_wp2_with fail
  refine (WOK.out (some ⟨Eg, 0, none⟩) 11 Ec m2 false HBAD.out HM2L.out (by decide) hcE.out _ E9.out.row).mono ?_
  rintro e w10 ⟨rfl, hb10⟩
  have HB10 : Hid (Below w.heap.size w w10) := HB9.out.trans (hb10.mono HB9.out.size)
  have E10 : Hid (OwnJ w1.heap.size (.slice (some ⟨Eg, 0, none⟩) 11 Ec) m2 w10) := E9.out.below hb10
  have P10 : Hid (OwnJ w2.heap.size (.slice (some ⟨Pg, 0, none⟩) 12 Pc) lp w10) := P9.out.below hb10
  have X10 : Hid (OwnJ w7.heap.size (.slice Xa 11 Xc) m2 w10) := X9.out.below hb10
  clear E9 P9 X9
  clear hb10 HB9
  go_wp2_with fail
  go_ret
  exact ⟨rfl, HB10.out⟩

end Go.Proofs.Ytgmlifhiefknbaa

namespace Go.Proofs.Ytgmlifhiefknbaa
open Go.RowKit Go.PlainAid

set_option linter.unusedVariables false

theorem implBad_is (a : Int) (v : Bool) (hv : (!decide (El a)) = v) (w : World) :
    Calls Try.prog 38 #[.int .i64 a] w (Says (.bool v) w) := by
  obtain ⟨u, hu⟩ : ∃ u, decide (El a) = u := ⟨_, rfl⟩
  have HE : Hid ((!u) = v) := by show _ = _; rw [← hu]; exact hv
  have HU := Lib.hid hu
  clear hu hv
  go_enter Try.func38, Try.ntmps38
  go_wp2_with fail
  refine (implIsEl_is a u HU.out _).mono ?_
  rintro e w2 ⟨rfl, rfl⟩
  go_wp2_with fail
  go_ret
  exact ⟨ret_b HE.out, rfl⟩

set_option maxHeartbeats 1000000 in
set_option maxRecDepth 100000 in
theorem implIndexBad_is {a : Option Addr} {n c : Nat} {l : List Int} (hn : l.length = n) (hl : n ≤ 3000000) {w : World} (h : RowI w a l) (v : Bool) (hv : decide (Els l) = v) :
    Calls Try.prog 46 #[.slice a n c, .func (.func 38) #[] #[]] w fun e w' => ∃ i : Int, e = .returned (.int .i64 i) ∧ decide (0 ≤ i) = (!v) ∧ w = w' := by
  have HN := Lib.hid hn
  have HA := Lib.hid h
  have HV := Lib.hid hv
  have hl2 : (n : Int) ≤ 9223372036854775807 := by omega
  clear hn h hv
  go_enter Try.func46, Try.ntmps46
  go_wp2_with fail
  go_loopw [8] (fun i wr => ∃ k : Nat, k ≤ n ∧ i = .int .i64 k ∧ Els (l.take k) ∧ wr = w) (fun i _ => n - (intOf i).toNat)
  case atStart => exact ⟨0, Nat.zero_le _, rfl, (fun v hv => by cases hv), rfl⟩
  case round =>
    obtain ⟨k, hk, rfl, hels, rfl⟩ := hrel
    have HE := Lib.hid hels
    clear hels
    by_cases hlt : k < n
    · obtain ⟨ga, oa, rfl, hca⟩ := HA.out.at (k := k) (by rw [HN.out]; exact hlt)
      obtain ⟨x, hx⟩ : ∃ x, l.getD k 0 = x := ⟨_, rfl⟩
      rw [hx] at hca
      by_cases he : El x
      · have HS := Lib.hid (els_take (by rw [HN.out]; exact hlt) HE.out (hx ▸ he))
        have KA : Hid ((!decide (El x)) = false) := by show _ = _; rw [decide_eq_true he]; rfl
        clear hx he
        go_wp2_with fail
        refine (implBad_is x false KA.out _).mono ?_
        rintro e w2 ⟨rfl, rfl⟩
        go_wp2_with fail
        go_roundw
        case rel => exact ⟨k + 1, by omega, by go_num, HS.out, by trivial⟩
        case measure => simp [intOf]; omega
      · have HF : Hid (false = v) := by show _ = _; rw [← HV.out]; exact (decide_eq_false (fun q => he (hx ▸ el_getD q (by rw [HN.out]; exact hlt)))).symm
        have KA : Hid ((!decide (El x)) = true) := by show _ = _; rw [decide_eq_false he]; rfl
        clear hx he
        go_wp2_with fail
        refine (implBad_is x true KA.out _).mono ?_
        rintro e w2 ⟨rfl, rfl⟩
        go_wp2_with fail
        go_ret
        exact ⟨_, rfl, by rw [← HF.out]; exact decide_eq_true (by omega), rfl⟩
    · obtain rfl : k = n := by omega
      have HF : Hid (true = v) := by
        show _ = _
        rw [← HV.out]
        have := HE.out
        rw [List.take_of_length_le (by rw [HN.out]; omega)] at this
        exact (decide_eq_true this).symm
      go_wp2_with fail
      go_ret
      exact ⟨_, rfl, by rw [← HF.out]; rfl, rfl⟩

theorem implContainsBad_is {a : Option Addr} {n c : Nat} {l : List Int} (hn : l.length = n) (hl : n ≤ 3000000) {w : World} (h : RowI w a l) (v : Bool) (hv : decide (Els l) = v) :
    Calls Try.prog 37 #[.slice a n c, .func (.func 38) #[] #[]] w (Says (.bool (!v)) w) := by
  have HN := Lib.hid hn
  have HA := Lib.hid h
  have HV := Lib.hid hv
  clear hn h hv
  go_enter Try.func37, Try.ntmps37
  go_wp2_with fail
  refine (implIndexBad_is HN.out hl HA.out v HV.out).mono ?_
  rintro e w2 ⟨i, rfl, hi, rfl⟩
  have HI := Lib.hid hi
  clear hi
  go_wp2_with fail
  go_ret
  exact ⟨ret_b HI.out, rfl⟩

theorem implSymbolsOk_is : ISymbolsOk := by
  intro a n c l m v hv hn hl hc w h
  by_cases hm : (n : Int) = m
  case neg =>
    have tm : ((n : Int) == m) = false := by simpa using hm
    obtain rfl : v = false := by rw [← hv]; exact decide_eq_false fun q => hm (by rw [← hn]; exact q.2)
    clear hv h hm hn
    go_enter Try.func18, Try.ntmps18
    go_wp2_with fail
    go_ret
    exact ⟨rfl, Below.refl _ _⟩
  have HE : Hid (decide (Els l) = v) := by
    show _ = _
    rw [← hv]
    exact decide_eq_decide.mpr ⟨fun q => ⟨q, by rw [hn]; exact hm⟩, fun q => q.1⟩
  have HN := Lib.hid hn
  have HA := Lib.hid h
  clear hv hn h
  subst hm
  have tm : ((n : Int) == (n : Int)) = true := by simp
  go_enter Try.func18, Try.ntmps18
  go_wp2_with fail
  refine (implContainsBad_is HN.out hl HA.out v HE.out).mono ?_
  rintro e w2 ⟨rfl, rfl⟩
  go_wp2_with fail
  go_ret
  exact ⟨rfl, Below.refl _ _⟩

set_option maxHeartbeats 2000000 in
set_option maxRecDepth 100000 in
theorem implEqualI_is {a b : Option Addr} {n m c d : Nat} {xs ys : List Int} (hx : xs.length = n) (hy : ys.length = m) (hl : n ≤ 3000000) (hm : m ≤ 3000000) {w : World} (ha : RowI w a xs) (hb : RowI w b ys) (v : Bool) (hv : decide (xs = ys) = v) :
    Calls Try.prog 35 #[.slice a n c, .slice b m d] w fun e w' => e = .returned (.bool v) ∧ ∃ q, w' = w.drewN q := by
  have HX := Lib.hid hx
  have HY := Lib.hid hy
  have HA := Lib.hid ha
  have HB := Lib.hid hb
  by_cases hnm : n = m
  case neg =>
    have tn : ((n : Int) != (m : Int)) = true := by rw [bne_iff_ne]; omega
    have HF : Hid (false = v) := by show _ = _; rw [← hv]; exact (decide_eq_false (fun e => hnm (by rw [← hx, ← hy, e]))).symm
    clear hx hy ha hb hv hnm
    go_enter Try.func35, Try.ntmps35
    go_wp2_with fail
    go_ret
    exact ⟨ret_b HF.out, 0, rfl⟩
  subst hnm
  have HV := Lib.hid hv
  have tn : ((n : Int) != (n : Int)) = false := by simp
  clear hx hy ha hb hv
  go_enter Try.func35, Try.ntmps35
  go_wp2_with fail
  go_loopw [13] (fun i wr => ∃ k q : Nat, k ≤ n ∧ i = .int .i64 k ∧ (∀ j, j < k → xs.getD j 0 = ys.getD j 0) ∧ wr = w.drewN q) (fun i _ => n - (intOf i).toNat)
  case atStart => exact ⟨0, 0, Nat.zero_le _, rfl, (fun j hj => absurd hj (Nat.not_lt_zero _)), rfl⟩
  case round =>
    obtain ⟨k, q, hk, rfl, heq, rfl⟩ := hrel
    have HE := Lib.hid heq
    clear heq
    by_cases hlt : k < n
    · obtain ⟨ga, oa, rfl, hca⟩ := HA.out.at (k := k) (by rw [HX.out]; exact hlt)
      obtain ⟨gb, ob, rfl, hcb⟩ := HB.out.at (k := k) (by rw [HY.out]; exact hlt)
      obtain ⟨x, hx⟩ : ∃ x, xs.getD k 0 = x := ⟨_, rfl⟩
      obtain ⟨y, hy⟩ : ∃ y, ys.getD k 0 = y := ⟨_, rfl⟩
      rw [hx] at hca
      rw [hy] at hcb
      by_cases hxy : x = y
      · have HS : Hid (∀ j, j < k + 1 → xs.getD j 0 = ys.getD j 0) := fun j hj => by
          by_cases e : j = k
          · subst e; rw [hx, hy, hxy]
          · exact HE.out j (by omega)
        have txy : (x != y) = false := by rw [hxy]; simp
        clear hx hy hxy
        go_wp2_with fail
        go_quiet (fail)
        go_wp2
        go_roundw
        case rel => exact ⟨k + 1, _, by omega, by go_num, HS.out, rfl⟩
        case measure => simp [intOf]; omega
      · have HF : Hid (false = v) := by show _ = _; rw [← HV.out]; exact (decide_eq_false (fun e => hxy (by rw [← hx, ← hy, e]))).symm
        have txy : (x != y) = true := by rw [bne_iff_ne]; exact hxy
        clear hx hy hxy
        go_wp2_with fail
        go_quiet (fail)
        go_wp2
        go_ret
        exact ⟨ret_b HF.out, q + nq, by first | rfl | exact World.drewN_drewN _ _ _ | simp [World.drewN_add]⟩
    · obtain rfl : k = n := by omega
      have HF : Hid (true = v) := by
        show _ = _
        rw [← HV.out]
        refine (decide_eq_true ?_).symm
        apply List.ext_getElem (by rw [HX.out, HY.out])
        intro i h1 h2
        have := HE.out i (by rw [← HX.out]; exact h1)
        rwa [List.getD_eq_getElem?_getD, List.getD_eq_getElem?_getD, List.getElem?_eq_getElem h1, List.getElem?_eq_getElem h2] at this
      go_wp2_with fail
      go_ret
      exact ⟨ret_b HF.out, _, rfl⟩

end Go.Proofs.Ytgmlifhiefknbaa
