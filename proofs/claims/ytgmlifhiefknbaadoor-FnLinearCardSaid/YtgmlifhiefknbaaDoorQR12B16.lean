/-
  Texts of one proof, merged: RdyC, RdyJ, CodI, CodW, CodF, CodK, CodG, CodS, CodL1, CodL3, CodL4, CodQ.
-/
import Derived.Test.YtgmlifhiefknbaaDoorQR12B1
import Derived.Test.YtgmlifhiefknbaaDoorQR12B2
import Derived.Test.YtgmlifhiefknbaaDoorQR12B3
import Derived.Test.YtgmlifhiefknbaaDoorQR12B5
import Derived.Test.YtgmlifhiefknbaaDoorQR12B6
import Derived.Test.YtgmlifhiefknbaaDoorQR12B8
import Derived.Test.YtgmlifhiefknbaaDoorQR12B9
import Derived.Test.YtgmlifhiefknbaaDoorQR12B12
import Derived.Test.YtgmlifhiefknbaaDoorQR12B13
import Derived.Test.YtgmlifhiefknbaaDoorQR12B15
import Derived.Deep.AppendLies
import Derived.Deep.RegionLaw
import Derived.Maps.AppendAt
namespace Go.Proofs.YtgmlifhiefknbaaDoor
open Go.RowKit Go.PlainAid

set_option linter.unusedVariables false

theorem RowI.src {w : World} {ad : Addr} {l : List Int} (h : RowI w (some ad) l) : ∀ j u, (l.map (Value.int .i64))[j]? = some u → w.cell? (ad.add j) = some u := by
  rcases h with rfl | ⟨b, off, hb, h⟩
  · intro j u hu; simp at hu
  · cases hb
    intro j u hu
    rw [List.getElem?_map] at hu
    cases hl : l[j]? with
    | none => rw [hl] at hu; cases hu
    | some z =>
      rw [hl] at hu
      cases hu
      have hj : j < l.length := by
        rcases Nat.lt_or_ge j l.length with h1 | h1
        · exact h1
        · rw [List.getElem?_eq_none h1] at hl; cases hl
      have h2 := h j hj
      rw [List.getD_eq_getElem?_getD, hl] at h2
      unfold Addr.add
      by_cases h0 : j = 0
      · subst h0
        rw [if_pos rfl]
        exact h2
      · rw [if_neg h0]
        exact h2

/-- Holds behind operation L. -/
def FromW (L : Nat) (F : World → Prop) (listed : Array Bool) (u : World) : Prop := listed.getD L false = true → F u

theorem FromW.zero (L : Nat) (F : World → Prop) (n : Nat) (u : World) : FromW L F (Array.replicate n false) u := fun h => by rw [getD_replicate_false] at h; cases h

theorem FromW.no {L i : Nat} {F : World → Prop} {listed : Array Bool} {u : World} (h : listed.getD L false = false) (hi : i ≠ L) : FromW L F (listed.setIfInBounds i true) u := fun h2 => by rw [getD_set_ne false hi, h] at h2; cases h2

/-- Operation L comes last. -/
def AllW (L : Nat) (listed : Array Bool) : Prop := ∀ j, j < L → Aft L j listed

theorem AllW.keep {L i : Nat} {listed : Array Bool} (h : AllW L listed) (hi : i ≠ L) : AllW L (listed.setIfInBounds i true) := fun j hj => (h j hj).keep hi

/-- The rows that operations i and j answered lie apart, till operation m. -/
def AptR (i j m n1 n2 : Nat) (listed : Array Bool) (x : Nat → Value) : Prop := listed.getD j false = true → listed.getD m false = false → ∃ aa ca ab cb, x i = .slice aa n1 ca ∧ x j = .slice ab n2 cb ∧ Apt aa ab

theorem AptR.zero (i j m n1 n2 n : Nat) (x : Nat → Value) : AptR i j m n1 n2 (Array.replicate n false) x := fun h => by rw [getD_replicate_false] at h; cases h

theorem AptR.keep {i j m n1 n2 : Nat} {listed : Array Bool} {x : Nat → Value} (h : AptR i j m n1 n2 listed x) {k : Nat} (hi : k ≠ i) (hj : k ≠ j) (hm : k ≠ m) (v : Value) : AptR i j m n1 n2 (listed.setIfInBounds k true) (upd x k v) := fun h1 h2 => by
  rw [getD_set_ne false hj] at h1
  rw [getD_set_ne false hm] at h2
  rw [upd_other _ _ (Ne.symm hi), upd_other _ _ (Ne.symm hj)]
  exact h h1 h2

theorem AptR.no {i j m n1 n2 : Nat} {listed : Array Bool} {x : Nat → Value} (h : listed.getD j false = false) {k : Nat} (hj : k ≠ j) (v : Value) : AptR i j m n1 n2 (listed.setIfInBounds k true) (upd x k v) := fun h1 _ => by
  rw [getD_set_ne false hj, h] at h1; cases h1

theorem AptR.new {i j m n1 n2 : Nat} {listed : Array Bool} {x : Nat → Value} {ab : Option Addr} {cb : Nat} (hij : i ≠ j) (h : ∃ aa ca, x i = .slice aa n1 ca ∧ Apt aa ab) : AptR i j m n1 n2 (listed.setIfInBounds j true) (upd x j (.slice ab n2 cb)) := fun _ _ => by
  obtain ⟨aa, ca, e1, e2⟩ := h
  exact ⟨aa, ca, ab, cb, by rw [upd_other _ _ hij]; exact e1, upd_same _ _ _, e2⟩

theorem AptR.call {i j m n1 n2 : Nat} {listed : Array Bool} {x : Nat → Value} (h : m < listed.size) : AptR i j m n1 n2 (listed.setIfInBounds m true) x := fun _ h2 => by rw [get_set_same false h] at h2; cases h2

/-- Numbers appended to a row of the call's own; where the new row lies. -/
theorem append_int {ops : Array Oper} {rest : List Oper} {o : Oper} {a : Act} {w : World} {Q : Exit → Act → World → Prop} (hgd : o.guard = none) (s x : Operand) (ho : o.op = .call { callee := .builtin .append, args := #[s, x], argTypes := #[24, 24] })
    (base : Nat) (v : Value) (n : Nat) (xs : List Int) (hs : a.eval s = v) (hown : OwnI base v xs w) (hxn : xs.length = n) (ad : Option Addr) (m c : Nat) (news : List Int) (hx : a.eval x = .slice ad m c) (hl : news.length = m) (hnc : ad = none → c = 0) (hrow : RowI w ad news) (hbig : n + m ≤ 3500000) (hbase : base ≤ w.heap.size)
    (h : ∀ v' w', OwnI base v' (xs ++ news) w' → w.grownBy w' v.ownBlock → (v'.ownBlock = v.ownBlock ∨ v'.ownBlock = some w.heap.size) → wpList Tryd.prog ops Q rest (a.put o.dst v') w') : wpList Tryd.prog ops Q (o :: rest) a w := by
  obtain ⟨i0, hi, hz0, hz1, hz2⟩ := info_parts infoI
  have hown' : w.ownsRow base 3 1 v n (xs.map (Value.int .i64)) := by
    have h2 := hown
    unfold OwnI at h2
    rw [hxn] at h2
    exact h2
  cases ad with
  | none =>
    obtain rfl : c = 0 := hnc rfl
    have hn0 : news = [] := by
      rcases hrow with h2 | ⟨_, _, h2, _⟩
      · exact h2
      · cases h2
    subst hn0
    obtain rfl : m = 0 := hl.symm
    refine wpList_append_own_none hgd s x 24 ho base 3 i0 1 Tryd.underlying24 hi v n _ hs hown' hx (h v w ?_ ⟨rfl, rfl, rfl, Nat.le_refl _, fun _ _ _ => rfl⟩ (.inl rfl))
    rw [List.append_nil]
    exact hown
  | some ad =>
    have hfl : (news.map (Value.int .i64)).length = m * 1 := by rw [List.length_map, hl, Nat.mul_one]
    refine wpList_append_own_at _ hgd s x 24 ho base 3 i0 (.int .i64 0) 1 8 Tryd.underlying24 hi hz0 hz1 hz2 rfl (by decide) v n _ hs hown' ad m c (news.map (Value.int .i64)) hx hfl (RowI.src hrow) (fun u hu => by obtain ⟨z, _, rfl⟩ := List.mem_map.1 hu; rfl) (by unfold maxLen; omega) (by omega) hbase ?_
    intro v' w' ho2 hg _ hat
    refine h v' w' ?_ hg hat
    unfold OwnI
    rw [List.length_append, hxn, hl, List.map_append]
    exact ho2

end Go.Proofs.YtgmlifhiefknbaaDoor

namespace Go.Proofs.YtgmlifhiefknbaaDoor
open Go.RowKit Go.PlainAid

set_option linter.unusedVariables false

/-- A row of numbers in a block of the call's own. -/
def OwnJ (B : Nat) (v : Value) (l : List Int) (w : World) : Prop :=
  ∃ a n c, v = .slice a n c ∧ l.length = n ∧ ((a = none ∧ n = 0 ∧ c = 0) ∨ ∃ g off cur, a = some ⟨g, off, none⟩ ∧ B ≤ g ∧ w.heap[g]? = some (.cells cur 3 (0, 0)) ∧ ∀ i, i < n → cur[off + i]? = some (.int .i64 (l.getD i 0)))

theorem OwnI.toJ {B n c : Nat} {a : Option Addr} {l : List Int} {w : World} (hn : l.length = n) (h : OwnI B (.slice a n c) l w) : OwnJ B (.slice a n c) l w := by
  refine ⟨a, n, c, rfl, hn, ?_⟩
  rcases h.2 with ⟨hv, h0⟩ | ⟨g, cap, cur, hv, hB, hh, _, _, hs, ht⟩
  · cases hv
    exact .inl ⟨rfl, by omega, rfl⟩
  · cases hv
    refine .inr ⟨g, 0, cur, rfl, hB, hh, fun i hi => ?_⟩
    rw [Nat.zero_add]
    have h1 : (cur.toList.take (l.length * 1))[i]? = (l.map (Value.int .i64))[i]? := by rw [ht]
    rw [List.getElem?_take_of_lt (by omega), List.getElem?_map] at h1
    rw [← Array.getElem?_toList, h1, List.getD_eq_getElem?_getD]
    cases e : l[i]? with
    | none => rw [List.getElem?_eq_none_iff] at e; omega
    | some z => rfl

theorem OwnJ.at {B n c : Nat} {a : Option Addr} {l : List Int} {w : World} (h : OwnJ B (.slice a n c) l w) {k : Nat} (hk : k < l.length) :
    ∃ g off, a = some ⟨g, off, none⟩ ∧ w.cell? ⟨g, off + k, none⟩ = some (.int .i64 (l.getD k 0)) ∧ w.frozen? ⟨g, off + k, none⟩ = false ∧ B ≤ g ∧ g < w.heap.size := by
  obtain ⟨_, _, _, hv, hl, h | ⟨g, off, cur, rfl, hB, hh, hc⟩⟩ := h
  · cases hv; omega
  · cases hv
    exact ⟨g, off, rfl, by simp only [World.cell?, hh]; exact hc k (by omega), by simp [World.frozen?, hh], hB, lt_of_block hh⟩

theorem OwnJ.row {B n c : Nat} {a : Option Addr} {l : List Int} {w : World} (h : OwnJ B (.slice a n c) l w) : RowI w a l := by
  obtain ⟨_, _, _, hv, hl, ⟨h1, h2, h3⟩ | ⟨g, off, cur, rfl, hB, hh, hc⟩⟩ := h
  · cases hv
    exact .inl (List.length_eq_zero_iff.1 (by omega))
  · cases hv
    exact .inr ⟨g, off, rfl, fun i hi => by simp only [World.cell?, hh]; exact hc i (by omega)⟩

theorem OwnJ.mono {B C : Nat} {v : Value} {l : List Int} {w : World} (h : OwnJ B v l w) (hC : C ≤ B) : OwnJ C v l w := by
  obtain ⟨a, n, c, hv, hl, h | ⟨g, off, cur, ha, hB, hh, hc⟩⟩ := h
  · exact ⟨a, n, c, hv, hl, .inl h⟩
  · exact ⟨a, n, c, hv, hl, .inr ⟨g, off, cur, ha, Nat.le_trans hC hB, hh, hc⟩⟩

theorem OwnJ.same {B n c : Nat} {a : Option Addr} {l : List Int} {w w' : World} (h : OwnJ B (.slice a n c) l w) (hk : ∀ x, a = some x → w'.heap[x.block]? = w.heap[x.block]?) : OwnJ B (.slice a n c) l w' := by
  obtain ⟨_, _, _, hv, hl, h | ⟨g, off, cur, rfl, hB, hh, hc⟩⟩ := h
  · exact ⟨_, _, _, hv, hl, .inl h⟩
  · cases hv
    exact ⟨_, _, _, rfl, hl, .inr ⟨g, off, cur, rfl, hB, (hk _ rfl).trans hh, hc⟩⟩

theorem OwnJ.lo {B n c : Nat} {a : Option Addr} {l : List Int} {w : World} (h : OwnJ B (.slice a n c) l w) : ∀ x, a = some x → B ≤ x.block ∧ x.block < w.heap.size := by
  obtain ⟨_, _, _, hv, hl, ⟨h1, _, _⟩ | ⟨g, off, cur, rfl, hB, hh, hc⟩⟩ := h
  · cases hv
    rintro x rfl
    cases h1
  · cases hv
    rintro x hx
    cases hx
    exact ⟨hB, lt_of_block hh⟩

theorem OwnJ.nil {B n c : Nat} {a : Option Addr} {l : List Int} {w : World} (h : OwnJ B (.slice a n c) l w) : a = none → c = 0 := by
  obtain ⟨_, _, _, hv, hl, ⟨h1, h2, h3⟩ | ⟨g, off, cur, rfl, hB, hh, hc⟩⟩ := h
  · cases hv
    exact fun _ => h3
  · cases hv
    intro h
    cases h

theorem OwnJ.below {B n c : Nat} {a : Option Addr} {l : List Int} {w w' : World} (h : OwnJ B (.slice a n c) l w) (hb : Below w.heap.size w w') : OwnJ B (.slice a n c) l w' :=
  h.same (fun x hx => hb.block _ (h.lo x hx).2)

theorem OwnJ.keep {B c n : Nat} {a : Option Addr} {l : List Int} {w w' : World} {g : Nat} (h : OwnJ B (.slice a n c) l w) (ho : Only g w w') (hne : ∀ x, a = some x → x.block ≠ g) : OwnJ B (.slice a n c) l w' :=
  h.same (fun x hx => ho.block _ (h.lo x hx).2 (hne x hx))

theorem OwnJ.alloc {B c n : Nat} {a : Option Addr} {l : List Int} {w : World} (p : OwnJ B (.slice a n c) l w) (o : Obj) : OwnJ B (.slice a n c) l (w.alloc o) :=
  p.below ((Below.refl _ _).alloc (Nat.le_refl _) o)

theorem OwnJ.set {B c n : Nat} {a : Option Addr} {l : List Int} {w : World} {p : Addr} (h : OwnJ B (.slice a n c) l w) (hp : ∀ x, a = some x → x.block ≠ p.block) (v : Value) : OwnJ B (.slice a n c) l (w.setCell p v) :=
  h.same (fun x hx => Below.heap_setCell _ _ _ _ (hp x hx))

theorem OwnJ.stored {B n c g off : Nat} {l : List Int} {w : World} (h : OwnJ B (.slice (some ⟨g, off, none⟩) n c) l w) (hl : l.length = n) {k : Nat} (hk : k < n) (x : Int) : OwnJ B (.slice (some ⟨g, off, none⟩) n c) (l.set k x) (w.setCell ⟨g, off + k, none⟩ (.int .i64 x)) := by
  obtain ⟨_, _, _, hv, _, ⟨h1, _, _⟩ | ⟨g', off', cur, hg, hB, hh, hc⟩⟩ := h
  · cases hv; cases h1
  · cases hv
    cases hg
    refine ⟨_, _, _, rfl, by rw [List.length_set]; exact hl, .inr ⟨g, off, cur.setIfInBounds (off + k) (.int .i64 x), rfl, hB, ?_, fun i hi => ?_⟩⟩
    · exact set_cells hh (off + k) (.int .i64 x)
    · by_cases e : i = k
      · subst e
        have hlt : off + i < cur.size := by
          have := hc i hi
          rcases Nat.lt_or_ge (off + i) cur.size with h | h
          · exact h
          · rw [Array.getElem?_eq_none h] at this; cases this
        rw [Array.getElem?_setIfInBounds_self_of_lt hlt, List.getD_eq_getElem?_getD, List.getElem?_set_self (by omega)]
        rfl
      · rw [Array.getElem?_setIfInBounds_ne (by omega), List.getD_eq_getElem?_getD, List.getElem?_set_ne (by omega), ← List.getD_eq_getElem?_getD]
        exact hc i hi

set_option maxHeartbeats 1000000 in
/-- Two rows of numbers that are alike. -/
theorem eqIntS_row {a b : Option Addr} {ca cb : Nat} {l : List Int} {w : World} {n : Nat} (hn : l.length = n) (ha : RowI w a l) (hb : RowI w b l) (hl : (n : Int) ≤ 9223372036854775807) :
    Calls Tryd.prog 19 #[.slice a n ca, .slice b n cb] w (Gives (.bool true) w) := by
  have HN := Lib.hid hn
  have HA := Lib.hid ha
  have HB := Lib.hid hb
  clear hn ha hb
  go_enter Tryd.func19, Tryd.ntmps19
  go_wp2_with fail
  go_loopw [5] (fun i wr => ∃ k : Nat, k ≤ n ∧ i = .int .i64 k ∧ ∃ q, wr = w.drewN q) (fun i _ => n - (intOf i).toNat)
  case atStart => exact ⟨0, Nat.zero_le _, rfl, 0, rfl⟩
  case round =>
    obtain ⟨k, hk, rfl, q, rfl⟩ := hrel
    by_cases hlt : k < n
    · obtain ⟨ga, oa, rfl, hca⟩ := HA.out.at (k := k) (by rw [HN.out]; exact hlt)
      obtain ⟨gb, ob, rfl, hcb⟩ := HB.out.at (k := k) (by rw [HN.out]; exact hlt)
      obtain ⟨x, hx⟩ : ∃ x, l.getD k 0 = x := ⟨_, rfl⟩
      rw [hx] at hca hcb
      have txx : (x != x) = false := by simp
      clear hx
      go_wp2_with fail
      go_quiet (fail)
      go_wp2
      go_roundw
      case rel => exact ⟨k + 1, by omega, by go_num, _, rfl⟩
      case measure => simp [intOf]; omega
    · go_wp2_with fail
      go_ret
      exact ⟨rfl, rfl, rfl, rfl, Nat.le_refl _, fun _ _ => rfl⟩

set_option maxHeartbeats 1000000 in
theorem markIntS_j {B : Nat} {a : Option Addr} {c : Nat} {l : List Int} {w : World} {n : Nat} (hn : l.length = n) (h : OwnJ B (.slice a n c) l w) (k0 : Nat) (h1 : k0 + n ≤ 1000000000) (g0 : Nat) (hg0 : ∀ x, a = some x → x.block = g0) :
    Calls Tryd.prog 20 #[.slice a n c, .int .i64 k0] w fun e w' => e = .returned (.int .i64 ((k0 + n : Nat) : Int)) ∧ OwnJ B (.slice a n c) (marksI k0 n) w' ∧ Only g0 w w' := by
  have HN := Lib.hid hn
  have HO := Lib.hid h
  have HG0 := Lib.hid hg0
  clear hn h hg0
  go_enter Tryd.func20, Tryd.ntmps20
  go_wp2_with fail
  go_loopw [1, 5] (fun m i wr => ∃ k : Nat, k ≤ n ∧ i = .int .i64 k ∧ m = .int .i64 ((k0 + k : Nat) : Int) ∧ OwnJ B (.slice a n c) (marksI k0 k ++ l.drop k) wr ∧ Only g0 w wr) (fun _ i _ => n - (intOf i).toNat)
  case atStart => exact ⟨0, Nat.zero_le _, rfl, rfl, by simpa [marksI] using HO.out, Only.refl _ _⟩
  case round =>
    obtain ⟨k, hk, rfl, rfl, hown, hok⟩ := hrel
    by_cases hlt : k < n
    · have hlen : (marksI k0 k ++ l.drop k).length = n := by have := HN.out; simp [marksI_length]; omega
      obtain ⟨g, off, rfl, hc, hf, hB, hg⟩ := hown.at (k := k) (by rw [hlen]; exact hlt)
      have HL := Lib.hid hlen
      obtain ⟨old, hco⟩ : ∃ u, wr.cell? ⟨g, off + k, none⟩ = some u := ⟨_, hc⟩
      have HO2 := Lib.hid hown
      have HK2 := Lib.hid hok
      have HGG : Hid (g = g0) := HG0.out _ rfl
      have HST := Lib.hid (marksI_step k0 k l (by have := HN.out; omega))
      clear hc hlen hown hok
      go_wp2_with fail
      have R2 : OwnJ B (.slice (some ⟨g, off, none⟩) n c) (marksI k0 (k + 1) ++ l.drop (k + 1)) (wr.setCell ⟨g, off + k, none⟩ (.int .i64 ((k0 : Int) + (k : Int)))) := by
        rw [← HST.out]
        have := HO2.out.stored HL.out hlt (((k0 + k : Nat) : Int))
        rwa [show ((k0 + k : Nat) : Int) = (k0 : Int) + (k : Int) by simp] at this
      have HK3 := Lib.hid (HK2.out.setCell (p := ⟨g, off + k, none⟩) HGG.out (.int .i64 ((k0 : Int) + (k : Int))))
      go_roundw
      case rel => exact ⟨k + 1, by omega, by go_num, by go_num, R2, HK3.out⟩
      case measure => simp [intOf]; omega
    · obtain rfl : k = n := by omega
      have HF := Lib.hid hown
      go_wp2_with fail
      go_ret
      exact ⟨by first | rfl | exact ret_i (by omega), by have := HF.out; rwa [List.drop_of_length_le (by have := HN.out; omega), List.append_nil] at this, hok⟩

theorem marksI_getD (k0 : Nat) {n k : Nat} (h : k < n) : (marksI k0 n).getD k 0 = ((k0 + k : Nat) : Int) := by
  rw [List.getD_eq_getElem?_getD, List.getElem?_eq_getElem (by rw [marksI_length]; exact h), marksI_get]
  rfl

set_option maxHeartbeats 1000000 in
theorem heldIntS_row {a : Option Addr} {c : Nat} {n : Nat} {w : World} (k0 : Nat) (h : RowI w a (marksI k0 n)) (h1 : k0 + n ≤ 1000000000) :
    Calls Tryd.prog 21 #[.slice a n c, .int .i64 k0] w (Gives (.int .i64 ((k0 + n : Nat) : Int)) w) := by
  have HO := Lib.hid h
  clear h
  go_enter Tryd.func21, Tryd.ntmps21
  go_wp2_with fail
  go_loop [1, 5] (fun m i => ∃ k : Nat, k ≤ n ∧ i = .int .i64 k ∧ m = .int .i64 ((k0 + k : Nat) : Int)) (fun _ i => n - (intOf i).toNat)
  case atStart => exact ⟨0, Nat.zero_le _, rfl, rfl⟩
  case round =>
    obtain ⟨k, hk, rfl, rfl⟩ := hrel
    by_cases hlt : k < n
    · obtain ⟨g, off, rfl, hc⟩ := HO.out.at (k := k) (by rw [marksI_length]; exact hlt)
      rw [marksI_getD k0 hlt] at hc
      have hc' : w.cell? ⟨g, off + k, none⟩ = some (.int .i64 ((k0 : Int) + (k : Int))) := by rw [hc]; simp
      have txx : ((k0 : Int) + (k : Int) != (k0 : Int) + (k : Int)) = false := by simp
      clear hc
      go_wp2_with fail
      go_round
      case rel => exact ⟨k + 1, by omega, by go_num, by go_num⟩
      case measure => simp [intOf]; omega
    · obtain rfl : k = n := by omega
      go_wp2_with fail
      go_ret
      exact ⟨by first | rfl | exact ret_i (by omega), Below.refl _ _⟩

/-- A call that answers a summary whose rows are its own, the second one anywhere in its block. -/
def GivesRj (n1 n2 : Nat) (la ac : List Int) (w : World) (e : Ending) (w' : World) : Prop :=
  ∃ a1 c1 a2 c2, e = .returned (.agg #[.slice a1 n1 c1, .slice a2 n2 c2]) ∧ OwnI w.heap.size (.slice a1 n1 c1) la w' ∧ OwnJ w.heap.size (.slice a2 n2 c2) ac w' ∧ Apt a1 a2 ∧ Below w.heap.size w w'

theorem GivesRd.toJ {n1 n2 : Nat} {la ac : List Int} {w w' : World} {e : Ending} (hn : ac.length = n2) (h : GivesRd n1 n2 la ac w e w') : GivesRj n1 n2 la ac w e w' := by
  obtain ⟨a1, c1, a2, c2, rfl, o1, o2, hp, hb⟩ := h
  exact ⟨a1, c1, a2, c2, rfl, o1, o2.toJ hn, hp, hb⟩

end Go.Proofs.YtgmlifhiefknbaaDoor

namespace Go.Proofs.YtgmlifhiefknbaaDoor
open Go.RowKit Go.PlainAid

set_option linter.unusedVariables false

/-- A call that answers a row of numbers of its own, anywhere in its block. -/
def GivesJ (n : Nat) (l : List Int) (w : World) (e : Ending) (w' : World) : Prop :=
  ∃ a c, e = .returned (.slice a n c) ∧ n ≤ c ∧ OwnJ w.heap.size (.slice a n c) l w' ∧ Below w.heap.size w w'

/-- The same with two numbers behind the row. -/
def GivesV (n : Nat) (t : List Int × Int × Int) (w : World) (e : Ending) (w' : World) : Prop :=
  ∃ a c, e = .returned (.tuple #[.slice a n c, .int .i64 t.2.1, .int .i64 t.2.2]) ∧ n ≤ c ∧ OwnJ w.heap.size (.slice a n c) t.1 w' ∧ Below w.heap.size w w'

theorem apt_new {B n c n' c' : Nat} {a a' : Option Addr} {l l' : List Int} {w w' : World} (h : OwnJ B (.slice a n c) l w) (h' : OwnJ w.heap.size (.slice a' n' c') l' w') : Apt a a' := fun x y hx hy => by
  have h1 := (h.lo x hx).2
  have h2 := (h'.lo y hy).1
  omega

theorem OwnJ.pick {B n c : Nat} {a : Option Addr} {l : List Int} {w : World} (h : OwnJ B (.slice a n c) l w) : ∃ g, (∀ x, a = some x → x.block = g) ∧ B ≤ g ∧ ∀ k, k < w.heap.size → (∀ x, a = some x → x.block ≠ k) → k ≠ g := by
  have l1 := h.lo
  rcases a with _ | x
  · exact ⟨B + w.heap.size, (fun x h => by cases h), by omega, fun k hk _ => by omega⟩
  · exact ⟨x.block, (fun y h => by cases h; rfl), (l1 x rfl).1, fun k _ h => fun e => h x rfl e.symm⟩

theorem syns_le (w : List Int) : (syns w).length ≤ 11 := by unfold syns; split <;> simp

theorem encI_le (d : List Int) : (encI d).length ≤ 11 := by
  unfold encI
  split
  · rename_i h
    rw [ints_length, enc_length, nats_length]
    have := h.2
    omega
  · simp

def ISymbolsOk : Prop := ∀ (a : Option Addr) (n c : Nat) (l : List Int) (m : Int) (v : Bool) (hv : decide (SymOk l m) = v) (hn : l.length = n) (hl : n ≤ 3000000) (hc : n ≤ c) (w : World) (h : RowI w a l), Calls Tryd.prog 12 #[.slice a n c, .int .i64 m] w (Gives (.bool v) w)

def IWordOk : Prop := ∀ (a : Option Addr) (n c : Nat) (l : List Int) (v : Bool) (hv : decide (goodW l) = v) (hn : l.length = n) (hl : n ≤ 3000000) (hc : n ≤ c) (w : World) (h : RowI w a l), Calls Tryd.prog 11 #[.slice a n c] w (Gives (.bool v) w)

def ISyndromes : Prop := ∀ (a : Option Addr) (n c : Nat) (l : List Int) (k : Nat) (hk : k ≤ 11) (v : List Int) (hv : syns l = v) (hk2 : v.length = k) (hn : l.length = n) (hl : n ≤ 3000000) (hc : n ≤ c) (w : World) (h : RowI w a l), Calls Tryd.prog 16 #[.slice a n c] w (GivesJ k v w)

def IEncodeSymbols (G : World → Prop) : Prop := ∀ (a : Option Addr) (n c : Nat) (l : List Int) (k : Nat) (hk : k ≤ 11) (v : List Int) (hv : encI l = v) (hk2 : v.length = k) (hn : l.length = n) (hl : n ≤ 3000000) (hc : n ≤ c) (w : World) (hG : G w) (h : RowI w a l), Calls Tryd.prog 10 #[.slice a n c] w (GivesJ k v w)

def IDataOf : Prop := ∀ (a : Option Addr) (n c : Nat) (l : List Int) (k : Nat) (hk : k ≤ 11) (v : List Int) (hv : dataI l = v) (hk2 : v.length = k) (hn : l.length = n) (hl : n ≤ 3000000) (hc : n ≤ c) (w : World) (h : RowI w a l), Calls Tryd.prog 15 #[.slice a n c] w (GivesJ k v w)

def ICorrectWord : Prop := ∀ (a : Option Addr) (n c : Nat) (l : List Int) (k : Nat) (hk : k ≤ 11) (v : List Int × Int × Int) (hv : corW l = v) (hk2 : v.1.length = k) (hn : l.length = n) (hl : n ≤ 3000000) (hc : n ≤ c) (w : World) (h : RowI w a l), Calls Tryd.prog 13 #[.slice a n c] w (GivesV k v w)

end Go.Proofs.YtgmlifhiefknbaaDoor

namespace Go.Proofs.YtgmlifhiefknbaaDoor
open Go.RowKit Go.PlainAid

set_option linter.unusedVariables false

theorem symOk_no {l : List Int} {m : Int} {k : Nat} (hk : k < l.length) (h : ¬ El (l.getD k 0)) : decide (SymOk l m) = false :=
  decide_eq_false fun q => h (el_getD q.1 hk)

theorem symOk_all {l : List Int} {m : Int} (h : Els l) : decide (SymOk l m) = ((l.length : Int) == m) := by
  by_cases e : (l.length : Int) = m
  · rw [decide_eq_true (show SymOk l m from ⟨h, e⟩)]; simpa using e
  · rw [decide_eq_false (fun q : SymOk l m => e q.2)]; simpa using e

set_option maxHeartbeats 1000000 in
set_option maxRecDepth 100000 in
theorem specSymbolsOk_is {a : Option Addr} {c n : Nat} {l : List Int} {m : Int} (hn : l.length = n) {w : World} (h : RowI w a l) (v : Bool) (hv : decide (SymOk l m) = v) (hl : (n : Int) ≤ 9223372036854775807) :
    Calls Tryd.prog 35 #[.slice a n c, .int .i64 m] w (Says (.bool v) w) := by
  have HN := Lib.hid hn
  have HA := Lib.hid h
  have HV := Lib.hid hv
  clear hn h hv
  go_enter Tryd.func35, Tryd.ntmps35
  go_wp2_with fail
  go_loopw [5] (fun i wr => ∃ k : Nat, k ≤ n ∧ i = .int .i64 k ∧ Els (l.take k) ∧ wr = w) (fun i _ => n - (intOf i).toNat)
  case atStart => exact ⟨0, Nat.zero_le _, rfl, (fun v hv => by cases hv), rfl⟩
  case round =>
    obtain ⟨k, hk, rfl, hels, rfl⟩ := hrel
    have HE := Lib.hid hels
    clear hels
    by_cases hlt : k < n
    · obtain ⟨ga, oa, rfl, hca⟩ := HA.out.at (k := k) (by rw [HN.out]; exact hlt)
      obtain ⟨x, hx⟩ : ∃ x, l.getD k 0 = x := ⟨_, rfl⟩
      rw [hx] at hca
      by_cases he : El x
      · have HS := Lib.hid (els_take (by rw [HN.out]; exact hlt) HE.out (hx ▸ he))
        have KA := Lib.hid (decide_eq_true he)
        clear hx he
        go_wp2_with fail
        refine (specIs_is x true KA.out _).mono ?_
        rintro e w2 ⟨rfl, rfl⟩
        go_wp2_with fail
        go_roundw
        case rel => exact ⟨k + 1, by omega, by go_num, HS.out, by trivial⟩
        case measure => simp [intOf]; omega
      · have HF : Hid (false = v) := by show _ = _; rw [← HV.out]; exact (symOk_no (by rw [HN.out]; exact hlt) (hx ▸ he)).symm
        have KA := Lib.hid (decide_eq_false he)
        clear hx he
        go_wp2_with fail
        refine (specIs_is x false KA.out _).mono ?_
        rintro e w2 ⟨rfl, rfl⟩
        go_wp2_with fail
        go_ret
        exact ⟨ret_b HF.out, rfl⟩
    · obtain rfl : k = n := by omega
      have HF : Hid (((k : Int) == m) = v) := by
        show _ = _
        rw [← HV.out, symOk_all (by have := HE.out; rwa [List.take_of_length_le (by rw [HN.out]; omega)] at this), HN.out]
      go_wp2_with fail
      go_ret
      exact ⟨ret_b HF.out, rfl⟩

end Go.Proofs.YtgmlifhiefknbaaDoor

namespace Go.Proofs.YtgmlifhiefknbaaDoor
open Go.RowKit Go.PlainAid

set_option linter.unusedVariables false

theorem OwnI.cap_le {B n c : Nat} {a : Option Addr} {l : List Int} {w : World} (h : OwnI B (.slice a n c) l w) (hn : l.length = n) : n ≤ c := by
  rcases h.2 with ⟨hv, h0⟩ | ⟨g, cap, cur, hv, hB, hh, h1, _, _, _⟩
  · cases hv; omega
  · cases hv; simp_all

end Go.Proofs.YtgmlifhiefknbaaDoor

namespace Go.Proofs.YtgmlifhiefknbaaDoor
open Go.RowKit Go.PlainAid

set_option linter.unusedVariables false

theorem ownI_other {B n c g : Nat} {l : List Int} {w : World} {p : Addr} (h : OwnI B (.slice (some ⟨g, 0, none⟩) n c) l w) (hp : g ≠ p.block) (u : Value) : OwnI B (.slice (some ⟨g, 0, none⟩) n c) l (w.setCell p u) := by
  refine ⟨h.1, ?_⟩
  rcases h.2 with hv | ⟨b, cap, cur, hv, hB, hh, r⟩
  · exact .inl hv
  · cases hv
    exact .inr ⟨g, c, cur, rfl, hB, (Below.heap_setCell _ _ _ _ hp).trans hh, r⟩

theorem rowI_other {g o : Nat} {l : List Int} {w : World} {p : Addr} (h : RowI w (some ⟨g, o, none⟩) l) (hp : g ≠ p.block) (u : Value) : RowI (w.setCell p u) (some ⟨g, o, none⟩) l := by
  rcases h with h | ⟨g', o', he, hc⟩
  · exact .inl h
  · cases he
    refine .inr ⟨g, o, rfl, fun i hi => ?_⟩
    have := hc i hi
    simp only [World.cell?, Below.heap_setCell _ _ _ _ hp] at this ⊢
    exact this

theorem getD_ints {l : List Nat} {k : Nat} : (ints l).getD k 0 = ((l.getD k 0 : Nat) : Int) := ints_getD l k

theorem int_at {r : List Nat} {k : Nat} (hk : k < (ints r).length) : (ints r)[k] = ((r.getD k 0 : Nat) : Int) := by
  rw [← getD_ints, List.getD_eq_getElem?_getD, List.getElem?_eq_getElem hk]
  rfl

theorem mulP_lt {b : List Nat} {r : Nat} (hb : Lt16 b) (hr : r < 16) : ∀ i, Lt16 (mulP b r i)
  | 0 => fun v hv => by rw [(List.mem_replicate.mp hv).2]; omega
  | i + 1 => lt_set (lt_set (mulP_lt hb hr i) (xor_lt (getDn_lt (mulP_lt hb hr i) _) (getDn_lt hb _))) (xor_lt (getDn_lt (mulP_lt hb hr i) _) (gm_lt (getDn_lt hb _) hr))

theorem polyB_next {t : Nat} (h : 1 ≤ t) : polyB (t + 1) = mulP (polyB t) (gp 2 t) (polyB t).length := by
  match t, h with
  | t + 1, _ => rfl

theorem poly_lt1 : Lt16 (polyB 1) := by unfold Lt16; decide

theorem poly_lt2 : Lt16 (polyB 2) := by rw [polyB_two]; unfold Lt16; decide

set_option maxHeartbeats 4000000 in
set_option maxRecDepth 100000 in
theorem specEncodeSymbols_is {a : Option Addr} {c n : Nat} {l : List Int} (hn : l.length = n) {w : World} (h : RowI w a l) (v : List Int) (hv : encI l = v) (hl : (n : Int) ≤ 9223372036854775807) :
    Calls Tryd.prog 17 #[.slice a n c] w (GivesI v w) := by
  have HN := Lib.hid hn
  have HA := Lib.hid h
  have HV := Lib.hid hv
  clear hn h hv
  by_cases hok : SymOk l 8
  case neg =>
    have KA := Lib.hid (decide_eq_false hok)
    obtain rfl : v = [] := by rw [← HV.out]; exact if_neg hok
    clear hok
    go_enter Tryd.func17, Tryd.ntmps17
    go_wp2_with fail
    refine (specSymbolsOk_is HN.out HA.out false KA.out hl).mono ?_
    rintro e w2 ⟨rfl, rfl⟩
    go_wp2_with fail
    go_ret
    exact givesI_empty rfl (Nat.le_refl _) (by show (w.heap.push _)[w.heap.size]? = _; simp) ((Below.refl _ _).alloc (Nat.le_refl _) _)
  have KA := Lib.hid (decide_eq_true hok)
  obtain rfl : n = 8 := by have := hok.2; have := HN.out; omega
  obtain ⟨g, o, rfl, _⟩ := HA.out.at (k := 0) (by rw [HN.out]; omega)
  obtain ⟨u, hu⟩ : ∃ u, nats l = u := ⟨_, rfl⟩
  have HLT : Hid (Lt16 u) := by show Lt16 u; rw [← hu]; exact nats_lt hok.1
  have HUL : Hid (u.length = 8) := by show _ = _; rw [← hu, nats_length]; exact HN.out
  have HLU : Hid (l = ints u) := by show _ = _; rw [← hu, ints_nats hok.1]
  have HF : Hid (ints (enc u) = v) := by show _ = _; rw [← HV.out, encI, if_pos hok, hu]
  obtain ⟨i0, hi, hz0, hz1, hz2⟩ := info_parts infoI
  clear hok hu HV
  go_enter Tryd.func17, Tryd.ntmps17
  go_wp2_with fail
  refine (specSymbolsOk_is HN.out HA.out true KA.out hl).mono ?_
  rintro e w2 ⟨rfl, rfl⟩
  go_wp2_with (at_make; refine wpList_make_full _ rfl _ _ 24 rfl w.heap.size 3 i0 (.int .i64 0) 1 Tryd.underlying24 hi hz0 hz1 _ _ _ _ 3 rfl rfl rfl rfl (by rw [hz2]; omega) (by unfold maxLen; omega) (Nat.le_refl _) ?_)
  intro w1 hown hgr
  have hb1 : Below w.heap.size w w1 := (Below.refl _ _).grown hgr (Nat.le_refl _) (fun k hk => by cases hk)
  have own1 : OwnI w.heap.size (.slice (some ⟨w.heap.size, 0, none⟩) 3 3) [0, 0, 0] w1 := by
    unfold OwnI
    rw [made_one] at hown
    exact hown
  have HR1 := Lib.hid (HA.out.below hb1)
  have hs1 := hb1.size
  clear hown hgr
  go_wp2_with (at_builtin; refine append_int rfl _ _ rfl w.heap.size _ 3 [0, 0, 0] rfl own1 rfl (some ⟨g, o, none⟩) 8 c l rfl HN.out (fun h => by cases h) HR1.out (by omega) hs1 ?_)
  intro v' w4 hown4 hgrow _
  have HB4 : Hid (Below w.heap.size w w4) := hb1.grown hgrow hs1 (fun j hj => by have := Option.some.inj hj; have h2 : w.heap.size = j := this; omega)
  obtain ⟨aa, cc, hv⟩ := hown4.shape
  subst hv
  have hlen : ((0 : Int) :: 0 :: 0 :: l).length = 11 := by have := HN.out; simp only [List.length_cons]; omega
  rw [hlen] at hown4
  obtain ⟨P, rfl, _, _, hBP, hPS⟩ := hown4.at (k := 0) (by rw [hlen]; omega)
  have HO4 : Hid (OwnI w.heap.size (.slice (some ⟨P, 0, none⟩) 11 cc) (0 :: 0 :: 0 :: ints u) w4) := by show OwnI _ _ _ _; rw [← HLU.out]; exact hown4
  have HPS := Lib.hid hPS
  have HBP := Lib.hid hBP
  rw [hlen]
  clear hown4 hgrow own1 hb1 hBP hPS HR1 hs1
  go_wp2_with fail
  have HBY : Hid (RowI (w4.alloc (.cells #[.int .i64 1, .int .i64 1] 3)) (some ⟨w4.heap.size, 0, none⟩) (ints (polyB 1))) := by
    refine .inr ⟨_, _, rfl, fun i hi => ?_⟩
    have hh : (w4.alloc (.cells #[.int .i64 1, .int .i64 1] 3)).heap[w4.heap.size]? = some (.cells #[.int .i64 1, .int .i64 1] 3 (0, 0)) := by show (w4.heap.push _)[w4.heap.size]? = _; simp
    have hi2 : i < 2 := hi
    simp only [World.cell?, hh]
    match i, hi2 with
    | 0, _ => rfl
    | 1, _ => rfl
  go_loopw [4, 5] (fun b j wr => ∃ t Q m cq : Nat, 1 ≤ t ∧ t ≤ 3 ∧ j = .int .i64 t ∧ b = .slice (some ⟨Q, 0, none⟩) m cq ∧ m = t + 1 ∧ RowI wr (some ⟨Q, 0, none⟩) (ints (polyB t)) ∧ P < Q ∧ Q < wr.heap.size ∧ OwnI w.heap.size (.slice (some ⟨P, 0, none⟩) 11 cc) (0 :: 0 :: 0 :: ints u) wr ∧ Below w.heap.size w wr) (fun _ j _ => 3 - (intOf j).toNat)
  case atStart => exact ⟨1, w4.heap.size, 2, 2, Nat.le_refl _, by omega, rfl, rfl, rfl, HBY.out, HPS.out, by simp, World.ownsRow.alloc HO4.out _, HB4.out.alloc HB4.out.size _⟩
  case round =>
    obtain ⟨t, Q, m, cq, ht1, ht3, rfl, rfl, hm, hby, hPQ, hQs, hW, hbr⟩ := hrel
    have HBY := Lib.hid hby
    have HPQ := Lib.hid hPQ
    have HQS := Lib.hid hQs
    have HW := Lib.hid hW
    have HBR := Lib.hid hbr
    clear hby hPQ hQs hW hbr
    by_cases hlt : t < 3
    case neg =>
      obtain rfl : t = 3 := by omega
      obtain rfl : m = 4 := by omega
      rw [polyB_three] at HBY
      have hb3 : Below wr.heap.size wr (wr.alloc (.cells #[] 3)) := (Below.refl _ _).alloc (Nat.le_refl _) _
      have own3 : OwnI wr.heap.size (.slice (some ⟨wr.heap.size, 0, none⟩) 0 0) [] (wr.alloc (.cells #[] 3)) := World.ownsRow_made (base := wr.heap.size) (e := 3) (size := 1) wr #[] 0 (Nat.le_refl _) (by decide) rfl
      have HRW := Lib.hid (HW.out.row.below hb3)
      have hS3 : wr.heap.size ≤ (wr.alloc (.cells #[] 3)).heap.size := by simp
      have hlen3 : ((0 : Int) :: 0 :: 0 :: ints u).length = 11 := by have := HUL.out; simp only [List.length_cons, ints_length]; omega
      go_wp2_with (at_builtin; refine append_int rfl _ _ rfl wr.heap.size _ 0 [] rfl own3 rfl (some ⟨P, 0, none⟩) 11 cc (0 :: 0 :: 0 :: ints u) rfl hlen3 (fun h => by cases h) HRW.out (by omega) hS3 ?_)
      intro v' w5 hown5 hgrow5 _
      (try rw [List.nil_append] at hown5)
      have hb5 : Below wr.heap.size wr w5 := hb3.grown hgrow5 hS3 (fun j hj => by have := Option.some.inj hj; have h2 : wr.heap.size = j := this; omega)
      obtain ⟨ar, cr, hv⟩ := hown5.shape
      subst hv
      rw [hlen3] at hown5
      obtain ⟨R, rfl, _, _, hBR, hRS⟩ := hown5.at (k := 0) (by rw [hlen3]; omega)
      have HR5 : Hid (OwnI wr.heap.size (.slice (some ⟨R, 0, none⟩) 11 cr) (ints (0 :: 0 :: 0 :: u)) w5) := hown5
      have HW5 : Hid (OwnI w.heap.size (.slice (some ⟨P, 0, none⟩) 11 cc) (0 :: 0 :: 0 :: ints u) w5) := HW.out.below hb5
      have HY5 := Lib.hid (HBY.out.below hb5)
      have HB5 : Hid (Below w.heap.size w w5) := HBR.out.trans (hb5.mono HBR.out.size)
      have HQR : Hid (Q < R) := Nat.lt_of_lt_of_le HQS.out hBR
      have HPR : Hid (P < R) := Nat.lt_trans HPQ.out HQR.out
      have HWR : Hid (w.heap.size ≤ R) := Nat.le_of_lt (Nat.lt_of_le_of_lt HBP.out HPR.out)
      have HQ3 := HQS.out
      rw [hlen3]
      clear hown5 hgrow5 own3 hb3 hb5 HRW hS3 hBR hRS HBY HQS HW HBR
      obtain ⟨B0, hB0⟩ : ∃ B0, wr.heap.size = B0 := ⟨_, rfl⟩
      rw [hB0] at HR5
      clear hB0
      go_wp2_with fail
      go_loopw [9] (fun x wx => ∃ i : Nat, ∃ r : List Nat, 2 ≤ i ∧ i ≤ 10 ∧ x = .int .i64 i ∧ DivAt u i r ∧ OwnI B0 (.slice (some ⟨R, 0, none⟩) 11 cr) (ints r) wx ∧ OwnI w.heap.size (.slice (some ⟨P, 0, none⟩) 11 cc) (0 :: 0 :: 0 :: ints u) wx ∧ RowI wx (some ⟨Q, 0, none⟩) (ints [8, 14, 7, 1]) ∧ Below w.heap.size w wx) (fun x _ => (intOf x).toNat)
      case atStart => exact ⟨10, _, by omega, by omega, rfl, div_start HLT.out HUL.out, HR5.out, HW5.out, HY5.out, HB5.out⟩
      case round =>
        obtain ⟨i, r, hi2, hi10, rfl, hdiv, hR, hW, hY, hbr⟩ := hrel
        have HD := Lib.hid hdiv
        have HR6 := Lib.hid hR
        have HW6 := Lib.hid hW
        have HY6 := Lib.hid hY
        have HB6 := Lib.hid hbr
        have HRL : Hid ((ints r).length = 11) := by show _ = _; rw [ints_length]; exact hdiv.1
        have HRT : Hid (Lt16 r) := hdiv.2.1
        clear hdiv hR hW hY hbr HR5 HW5 HY5 HB5
        by_cases hi3 : 3 ≤ i
        case neg =>
          obtain rfl : i = 2 := by omega
          have HEN := Lib.hid (div_end HLT.out HD.out)
          go_wp2_with fail
          go_loopw [13] (fun x wx => ∃ k : Nat, k ≤ 3 ∧ x = .int .i64 k ∧ OwnI B0 (.slice (some ⟨R, 0, none⟩) 11 cr) (ints r) wx ∧ OwnI w.heap.size (.slice (some ⟨P, 0, none⟩) 11 cc) (((if 0 < k then r.getD 0 0 else 0 : Nat) : Int) :: ((if 1 < k then r.getD 1 0 else 0 : Nat) : Int) :: ((if 2 < k then r.getD 2 0 else 0 : Nat) : Int) :: ints u) wx ∧ Below w.heap.size w wx) (fun x _ => 3 - (intOf x).toNat)
          case atStart => exact ⟨0, by omega, rfl, HR6.out, HW6.out, HB6.out⟩
          case round =>
            obtain ⟨k, hk3, rfl, hR, hW, hbr⟩ := hrel
            have HR7 := Lib.hid hR
            have HW7 := Lib.hid hW
            have HB7 := Lib.hid hbr
            clear hR hW hbr HR6 HW6 HY6 HB6
            have hwl : (((if 0 < k then r.getD 0 0 else 0 : Nat) : Int) :: ((if 1 < k then r.getD 1 0 else 0 : Nat) : Int) :: ((if 2 < k then r.getD 2 0 else 0 : Nat) : Int) :: ints u).length = 11 := by have := HUL.out; simp only [List.length_cons, ints_length]; omega
            by_cases hk : k < 3
            case neg =>
              obtain rfl : k = 3 := by omega
              have HFN : Hid (OwnI w.heap.size (.slice (some ⟨P, 0, none⟩) 11 cc) v wr) := by
                show OwnI _ _ _ _
                rw [← HF.out, ← HEN.out]
                exact HW7.out
              have HVL : Hid (v.length = 11) := by show _ = _; rw [← HF.out, ints_length, enc_length, HUL.out]
              go_wp2_with fail
              go_ret
              exact ⟨some ⟨P, 0, none⟩, cc, by rw [HVL.out]; rfl, by rw [HVL.out]; exact HFN.out, HB7.out⟩
            obtain ⟨g1, hg1, hc1, _, _, _⟩ := HR7.out.at (k := k) (by rw [HRL.out]; omega)
            obtain rfl : R = g1 := by simpa using hg1
            obtain ⟨g2, hg2, hc2, hf2, _, _⟩ := HW7.out.at (k := k) (by rw [hwl]; omega)
            obtain rfl : P = g2 := by simpa using hg2
            have hcR : wr.cell? ⟨R, k, none⟩ = some (.int .i64 ((r.getD k 0 : Nat) : Int)) := by
              rw [hc1, ← getD_ints, List.getD_eq_getElem?_getD, List.getElem?_eq_getElem (by rw [HRL.out]; omega)]
              rfl
            have HST : Hid ((((if 0 < k then r.getD 0 0 else 0 : Nat) : Int) :: ((if 1 < k then r.getD 1 0 else 0 : Nat) : Int) :: ((if 2 < k then r.getD 2 0 else 0 : Nat) : Int) :: ints u).set k ((r.getD k 0 : Nat) : Int) = ((if 0 < k + 1 then r.getD 0 0 else 0 : Nat) : Int) :: ((if 1 < k + 1 then r.getD 1 0 else 0 : Nat) : Int) :: ((if 2 < k + 1 then r.getD 2 0 else 0 : Nat) : Int) :: ints u) := by
              show _ = _
              match k, hk with
              | 0, _ => simp
              | 1, _ => simp
              | 2, _ => simp
            obtain ⟨X, hX⟩ : ∃ X : Int, ((r.getD k 0 : Nat) : Int) = X := ⟨_, rfl⟩
            rw [hX] at hcR HST
            obtain ⟨old, hco⟩ : ∃ u, wr.cell? ⟨P, k, none⟩ = some u := ⟨_, hc2⟩
            have HWL := Lib.hid hwl
            clear hX hc1 hc2 hg1 hg2 hwl
            go_wp2_with fail
            have R9 : Hid (OwnI B0 (.slice (some ⟨R, 0, none⟩) 11 cr) (ints r) (wr.setCell ⟨P, k, none⟩ (.int .i64 X))) := ownI_other HR7.out (Nat.ne_of_gt HPR.out) _
            have W9 : Hid (OwnI w.heap.size (.slice (some ⟨P, 0, none⟩) 11 cc) (((if 0 < k + 1 then r.getD 0 0 else 0 : Nat) : Int) :: ((if 1 < k + 1 then r.getD 1 0 else 0 : Nat) : Int) :: ((if 2 < k + 1 then r.getD 2 0 else 0 : Nat) : Int) :: ints u) (wr.setCell ⟨P, k, none⟩ (.int .i64 X))) := by
              show OwnI _ _ _ _
              rw [← HST.out]
              exact HW7.out.stored HWL.out k _
            have HB9 : Hid (Below w.heap.size w (wr.setCell ⟨P, k, none⟩ (.int .i64 X))) := HB7.out.setCell HBP.out _
            go_roundw
            case rel => exact ⟨k + 1, by omega, by go_num, R9.out, W9.out, HB9.out⟩
            case measure => simp [intOf]; omega
        have hfl : r.getD i 0 < 16 := getDn_lt HRT.out i
        obtain ⟨f, hf0⟩ : ∃ f, r.getD i 0 = f := ⟨_, rfl⟩
        have HDS := Lib.hid (div_step HD.out hi3 hi10)
        rw [hf0] at hfl HDS
        have HFL := Lib.hid hfl
        obtain ⟨g1, hg1, hc1, _, _, _⟩ := HR6.out.at (k := i) (by rw [HRL.out]; omega)
        obtain rfl : R = g1 := by simpa using hg1
        have hcf : wr.cell? ⟨R, i, none⟩ = some (.int .i64 (f : Int)) := by
          rw [hc1, int_at, hf0]
        clear hf0 hc1 hg1 hfl
        go_wp2_with fail
        go_loopw [11] (fun x wx => ∃ k : Nat, k ≤ 4 ∧ x = .int .i64 k ∧ OwnI B0 (.slice (some ⟨R, 0, none⟩) 11 cr) (ints (redP r f (i - 3) k)) wx ∧ OwnI w.heap.size (.slice (some ⟨P, 0, none⟩) 11 cc) (0 :: 0 :: 0 :: ints u) wx ∧ RowI wx (some ⟨Q, 0, none⟩) (ints [8, 14, 7, 1]) ∧ Below w.heap.size w wx) (fun x _ => 4 - (intOf x).toNat)
        case atStart => exact ⟨0, by omega, rfl, HR6.out, HW6.out, HY6.out, HB6.out⟩
        case round =>
          obtain ⟨k, hk4, rfl, hR, hW, hY, hbr⟩ := hrel
          have HR7 := Lib.hid hR
          have HW7 := Lib.hid hW
          have HY7 := Lib.hid hY
          have HB7 := Lib.hid hbr
          clear hR hW hY hbr HR6 HW6 HY6 HB6
          by_cases hk : k < 4
          case neg =>
            obtain rfl : k = 4 := by omega
            go_wp2_with fail
            go_roundw
            case rel => exact ⟨i - 1, _, by omega, by omega, by go_num, HDS.out, HR7.out, HW7.out, HY7.out, HB7.out⟩
            case measure => simp [intOf]; omega
          obtain ⟨p, hp⟩ : ∃ p, i - 3 = p := ⟨_, rfl⟩
          obtain ⟨q, hq⟩ : ∃ q, p + k = q := ⟨_, rfl⟩
          have hq11 : q < 11 := by omega
          have u1 : IntKind.i64.wrap ((i : Int) - 3) = (p : Int) := (IntWalk.i64_in _ (by omega)).trans (by omega)
          have u2 : IntKind.i64.wrap ((p : Int) + (k : Int)) = (q : Int) := (IntWalk.i64_in _ (by omega)).trans (by omega)
          rw [hp] at HR7
          have hRQ : Lt16 (redP r f p k) := redP_lt HRT.out HFL.out k
          have HL7 : Hid ((ints (redP r f p k)).length = 11) := by show _ = _; rw [ints_length, redP_length]; have := HRL.out; rwa [ints_length] at this
          obtain ⟨g1, hg1, hc1, _, _, _⟩ := HR7.out.at (k := q) (by rw [HL7.out]; exact hq11)
          obtain rfl : R = g1 := by simpa using hg1
          obtain ⟨g2, o2, he2, hc2⟩ := HY7.out.at (k := k) (by rw [ints_length]; exact hk)
          cases he2
          obtain ⟨X, hX⟩ : ∃ X, (redP r f p k).getD q 0 = X := ⟨_, rfl⟩
          obtain ⟨Y, hY⟩ : ∃ Y, [8, 14, 7, 1].getD k 0 = Y := ⟨_, rfl⟩
          have hXl : X < 16 := by rw [← hX]; exact getDn_lt hRQ q
          have hYl : Y < 16 := by rw [← hY]; exact poly_lt k
          have hcX : wr.cell? ⟨R, q, none⟩ = some (.int .i64 (X : Int)) := by rw [hc1, int_at, hX]
          have hcY : wr.cell? ⟨Q, k, none⟩ = some (.int .i64 (Y : Int)) := by
            have := hc2
            rw [getD_ints, hY, Nat.zero_add] at this
            exact this
          have HM : Hid (gfMul (Y : Int) (f : Int) = ((gm Y f : Nat) : Int)) := gfMul_nat hYl HFL.out
          have hG : gm Y f < 16 := gm_lt hYl HFL.out
          obtain ⟨G, hGe⟩ : ∃ G, gm Y f = G := ⟨_, rfl⟩
          rw [hGe] at HM hG
          have hxor : bits .xor .i64 (X : Int) (G : Int) = ((X ^^^ G : Nat) : Int) := i64_xor_nat X G (by omega) (by omega)
          have HST : Hid ((ints (redP r f p k)).set q ((X ^^^ G : Nat) : Int) = ints (redP r f p (k + 1))) := by
            show _ = _
            rw [← ints_set, ← hX, ← hGe, ← hY, ← hq]
            rfl
          have HP := Lib.hid hp
          have z0 := fun q : Later wr => q.cell hcX
          have z1 := fun q : Later wr => q.cell hcY
          clear hc1 hc2 hX hY hXl hYl hGe hG hg1 hRQ
          go_wp2_with fail
          refine wp_region_later_tail 14 (by kernel_rfl) (by kernel_rfl) ?_
          simp only [List.take_succ_cons, List.take_zero, List.drop_succ_cons, List.drop_zero]
          repeat (go_big_quiet_step (first | (go_at_call 36; exact Gives.later_same _ (specGfMul_is _ _ _ HM.out _))))
          refine wpQuiet_nil ?_
          rintro w8 ⟨zz, hz⟩
          have hb8 : Below wr.heap.size wr w8 := hz ▸ zz.ok
          have HR8 := Lib.hid (HR7.out.below hb8)
          have HW8 : Hid (OwnI w.heap.size (.slice (some ⟨P, 0, none⟩) 11 cc) (0 :: 0 :: 0 :: ints u) w8) := HW7.out.below hb8
          have HY8 := Lib.hid (HY7.out.below hb8)
          have HB8 : Hid (Below w.heap.size w w8) := HB7.out.trans (hb8.mono HB7.out.size)
          obtain ⟨g2, hg2, hc2, hf2, _, _⟩ := HR8.out.at (k := q) (by rw [HL7.out]; exact hq11)
          obtain rfl : R = g2 := by simpa using hg2
          obtain ⟨old, hco⟩ : ∃ u, w8.cell? ⟨R, q, none⟩ = some u := ⟨_, hc2⟩
          clear z0 z1 hz zz hb8 hcX hcY hc2 hg2
          go_wp2_with fail
          have R9 : Hid (OwnI B0 (.slice (some ⟨R, 0, none⟩) 11 cr) (ints (redP r f (i - 3) (k + 1))) (w8.setCell ⟨R, q, none⟩ (.int .i64 ((X ^^^ G : Nat) : Int)))) := by
            show OwnI _ _ _ _
            rw [HP.out, ← HST.out]
            exact HR8.out.stored HL7.out q _
          have W9 : Hid (OwnI w.heap.size (.slice (some ⟨P, 0, none⟩) 11 cc) (0 :: 0 :: 0 :: ints u) (w8.setCell ⟨R, q, none⟩ (.int .i64 ((X ^^^ G : Nat) : Int)))) := ownI_other HW8.out (Nat.ne_of_lt HPR.out) _
          have Y9 : Hid (RowI (w8.setCell ⟨R, q, none⟩ (.int .i64 ((X ^^^ G : Nat) : Int))) (some ⟨Q, 0, none⟩) (ints [8, 14, 7, 1])) := rowI_other HY8.out (Nat.ne_of_lt HQR.out) _
          have HB9 : Hid (Below w.heap.size w (w8.setCell ⟨R, q, none⟩ (.int .i64 ((X ^^^ G : Nat) : Int)))) := HB8.out.setCell HWR.out _
          go_roundw
          case rel => exact ⟨k + 1, by omega, by go_num, R9.out, W9.out, Y9.out, HB9.out⟩
          case measure => simp [intOf]; omega
    have hbl : (polyB t).length = m ∧ Lt16 (polyB t) := by
      obtain rfl | rfl : t = 1 ∨ t = 2 := by omega
      · exact ⟨by rw [hm]; rfl, poly_lt1⟩
      · exact ⟨by rw [hm, polyB_two]; rfl, poly_lt2⟩
    have HBL : Hid ((polyB t).length = m) := hbl.1
    have HBT : Hid (Lt16 (polyB t)) := hbl.2
    have HNX := Lib.hid (polyB_next ht1)
    have HP : Hid (gfPow 2 (t : Int) = ((gp 2 t : Nat) : Int)) := gfPow_nat (a := 2) (by omega) (by omega)
    obtain ⟨y, hy⟩ : ∃ y, gp 2 t = y := ⟨_, rfl⟩
    have hyl : y < 16 := by rw [← hy]; exact gp_lt (by omega) t
    rw [hy] at HP HNX
    obtain ⟨b, hb⟩ : ∃ b, polyB t = b := ⟨_, rfl⟩
    rw [hb] at HBY HBL HBT HNX
    rw [HBL.out] at HNX
    have HYL := Lib.hid hyl
    obtain ⟨N, hN⟩ : ∃ N, m + 1 = N := ⟨_, rfl⟩
    have hm3 : m ≤ 3 := by omega
    have u0 : IntKind.i64.wrap ((m : Int) + 1) = (N : Int) := (IntWalk.i64_in _ (by omega)).trans (by omega)
    have HM := Lib.hid hm
    clear hbl hy hb hyl hm
    obtain ⟨S, hS⟩ : ∃ S, wr.heap.size = S := ⟨_, rfl⟩
    go_wp2_with (at_make; refine wpList_make_full _ rfl _ _ 24 rfl wr.heap.size 3 i0 (.int .i64 0) 1 Tryd.underlying24 hi hz0 hz1 _ _ _ _ N rfl rfl rfl rfl (by rw [hz2]; omega) (by unfold maxLen; omega) (Nat.le_refl _) ?_)
    intro w1 hown hgr
    have hb1 : Below wr.heap.size wr w1 := (Below.refl _ _).grown hgr (Nat.le_refl _) (fun k hk => by cases hk)
    have own1 : OwnI S (.slice (some ⟨S, 0, none⟩) N N) (ints (mulP b y 0)) w1 := by
      unfold OwnI
      rw [made_one] at hown
      have e : ints (mulP b y 0) = List.replicate N (0 : Int) := by
        show ints (List.replicate (b.length + 1) 0) = _
        rw [HBL.out, hN]
        simp [ints]
      rw [e, List.length_replicate, show (List.replicate N (0 : Int)).map (Value.int .i64) = List.replicate N (Value.int .i64 0) by simp]
      exact hown
    have HY1 := Lib.hid (HBY.out.below hb1)
    have HW1 : Hid (OwnI w.heap.size (.slice (some ⟨P, 0, none⟩) 11 cc) (0 :: 0 :: 0 :: ints u) w1) := HW.out.below hb1
    have HB1 : Hid (Below w.heap.size w w1) := HBR.out.trans (hb1.mono HBR.out.size)
    have HQ1 : Q < S := by have := HQS.out; omega
    have HSZ : Hid (S < w1.heap.size) := by
      obtain ⟨_, he, _, _, _, h5⟩ := own1.at (k := 0) (by rw [ints_length, mulP_length]; omega)
      show S < _
      cases he
      exact h5
    have HO1 := Lib.hid own1
    have HQ2 := Lib.hid HQ1
    have HPS2 : Hid (P < S) := Nat.lt_trans HPQ.out HQ1
    have HWS : Hid (w.heap.size ≤ S) := Nat.le_of_lt (Nat.lt_of_le_of_lt HBP.out HPS2.out)
    clear hown hgr own1 hb1 hS HQ1 HBY HW HBR HQS
    go_wp2_with fail
    go_loopw [7] (fun x wx => ∃ i : Nat, i ≤ m ∧ x = .int .i64 i ∧ OwnI S (.slice (some ⟨S, 0, none⟩) N N) (ints (mulP b y i)) wx ∧ OwnI w.heap.size (.slice (some ⟨P, 0, none⟩) 11 cc) (0 :: 0 :: 0 :: ints u) wx ∧ RowI wx (some ⟨Q, 0, none⟩) (ints b) ∧ Below w.heap.size w wx ∧ S < wx.heap.size) (fun x _ => m - (intOf x).toNat)
    case atStart => exact ⟨0, by omega, rfl, HO1.out, HW1.out, HY1.out, HB1.out, HSZ.out⟩
    case round =>
      obtain ⟨i, hi3, rfl, hO, hW, hY, hbr, hsz⟩ := hrel
      have HO2 := Lib.hid hO
      have HW2 := Lib.hid hW
      have HY2 := Lib.hid hY
      have HB2 := Lib.hid hbr
      have HZ2 := Lib.hid hsz
      clear hO hW hY hbr hsz HO1 HW1 HY1 HB1 HSZ
      by_cases hk : i < m
      case neg =>
        obtain rfl : i = m := by omega
        go_wp2_with fail
        go_roundw
        case rel => exact ⟨t + 1, S, N, N, by omega, by omega, by go_num, rfl, by have := HM.out; omega, by rw [HNX.out]; exact HO2.out.row, HPS2.out, HZ2.out, HW2.out, HB2.out⟩
        case measure => simp [intOf]; omega
      obtain ⟨q, hq⟩ : ∃ q, i + 1 = q := ⟨_, rfl⟩
      have u1 : IntKind.i64.wrap ((i : Int) + 1) = (q : Int) := (IntWalk.i64_in _ (by omega)).trans (by omega)
      obtain ⟨L, hL⟩ : ∃ L, mulP b y i = L := ⟨_, rfl⟩
      rw [hL] at HO2
      have hLlt : Lt16 L := by rw [← hL]; exact mulP_lt HBT.out HYL.out i
      have hLl : L.length = N := by rw [← hL, mulP_length, HBL.out, hN]
      have HLL : Hid ((ints L).length = N) := by show _ = _; rw [ints_length]; exact hLl
      have hqN : q < N := by omega
      have hiN : i < N := by omega
      obtain ⟨g1, hg1, hc1, _, _, _⟩ := HO2.out.at (k := q) (by rw [HLL.out]; exact hqN)
      obtain rfl : S = g1 := by simpa using hg1
      obtain ⟨g2, o2, he2, hc2⟩ := HY2.out.at (k := i) (by rw [ints_length, HBL.out]; exact hk)
      cases he2
      obtain ⟨X, hX⟩ : ∃ X, L.getD q 0 = X := ⟨_, rfl⟩
      obtain ⟨X2, hX2⟩ : ∃ X, L.getD i 0 = X := ⟨_, rfl⟩
      obtain ⟨Y, hY⟩ : ∃ Y, b.getD i 0 = Y := ⟨_, rfl⟩
      have hXl : X < 16 := by rw [← hX]; exact getDn_lt hLlt q
      have hX2l : X2 < 16 := by rw [← hX2]; exact getDn_lt hLlt i
      have hYl : Y < 16 := by rw [← hY]; exact getDn_lt HBT.out i
      have hcX : wr.cell? ⟨S, q, none⟩ = some (.int .i64 (X : Int)) := by rw [hc1, int_at, hX]
      have hcY : wr.cell? ⟨Q, i, none⟩ = some (.int .i64 (Y : Int)) := by
        have := hc2
        rw [getD_ints, hY, Nat.zero_add] at this
        exact this
      have HMU : Hid (gfMul (Y : Int) (y : Int) = ((gm Y y : Nat) : Int)) := gfMul_nat hYl HYL.out
      have hG : gm Y y < 16 := gm_lt hYl HYL.out
      have HMN : Hid (mulP b y (i + 1) = (L.set q (X ^^^ Y)).set i (X2 ^^^ gm Y y)) := by
        show ((mulP b y i).set (i + 1) ((mulP b y i).getD (i + 1) 0 ^^^ b.getD i 0)).set i ((mulP b y i).getD i 0 ^^^ gm (b.getD i 0) y) = _
        rw [hL, hq, hX, hX2, hY]
      obtain ⟨G, hGe⟩ : ∃ G, gm Y y = G := ⟨_, rfl⟩
      rw [hGe] at HMU hG HMN
      have hxor : bits .xor .i64 (X : Int) (Y : Int) = ((X ^^^ Y : Nat) : Int) := i64_xor_nat X Y (by omega) (by omega)
      have hxor2 : bits .xor .i64 (X2 : Int) (G : Int) = ((X2 ^^^ G : Nat) : Int) := i64_xor_nat X2 G (by omega) (by omega)
      have HL1 : Hid ((ints (L.set q (X ^^^ Y))).length = N) := by show _ = _; rw [ints_length, List.length_set]; exact hLl
      have HG1 : Hid ((L.set q (X ^^^ Y)).getD i 0 = X2) := by show _ = _; rw [getDs_ne (by omega), hX2]
      have z0 := fun q : Later wr => q.cell hcX
      have z1 := fun q : Later wr => q.cell hcY
      have HYE : Hid (b.getD i 0 = Y) := hY
      clear hc1 hc2 hX hX2 hY hXl hX2l hYl hGe hG hg1 hL hLlt hLl
      go_wp2_with fail
      refine wp_region_later_tail 14 (by kernel_rfl) (by kernel_rfl) ?_
      simp only [List.take_succ_cons, List.take_zero, List.drop_succ_cons, List.drop_zero]
      repeat (go_big_quiet_step (fail))
      refine wpQuiet_nil ?_
      rintro w8 ⟨zz, hz⟩
      have hb8 : Below wr.heap.size wr w8 := hz ▸ zz.ok
      have HO8 := Lib.hid (HO2.out.below hb8)
      have HW8 : Hid (OwnI w.heap.size (.slice (some ⟨P, 0, none⟩) 11 cc) (0 :: 0 :: 0 :: ints u) w8) := HW2.out.below hb8
      have HY8 := Lib.hid (HY2.out.below hb8)
      have HB8 : Hid (Below w.heap.size w w8) := HB2.out.trans (hb8.mono HB2.out.size)
      have HZ8 : Hid (S < w8.heap.size) := Nat.lt_of_lt_of_le HZ2.out hb8.size
      obtain ⟨g2, hg2, hc2, hf2, _, _⟩ := HO8.out.at (k := q) (by rw [HLL.out]; exact hqN)
      obtain rfl : S = g2 := by simpa using hg2
      obtain ⟨old, hco⟩ : ∃ u, w8.cell? ⟨S, q, none⟩ = some u := ⟨_, hc2⟩
      clear z0 z1 hz zz hb8 hcX hcY hc2 hg2
      go_wp2_with fail
      obtain ⟨w9, hw9⟩ : ∃ x, w8.setCell ⟨S, q, none⟩ (.int .i64 ((X ^^^ Y : Nat) : Int)) = x := ⟨_, rfl⟩
      have HO9 : Hid (OwnI S (.slice (some ⟨S, 0, none⟩) N N) (ints (L.set q (X ^^^ Y))) w9) := by
        show OwnI _ _ _ _
        rw [← hw9, ints_set]
        exact HO8.out.stored HLL.out q _
      have HW9 : Hid (OwnI w.heap.size (.slice (some ⟨P, 0, none⟩) 11 cc) (0 :: 0 :: 0 :: ints u) w9) := by show OwnI _ _ _ _; rw [← hw9]; exact ownI_other HW8.out (Nat.ne_of_lt HPS2.out) _
      have HY9 : Hid (RowI w9 (some ⟨Q, 0, none⟩) (ints b)) := by show RowI _ _ _; rw [← hw9]; exact rowI_other HY8.out (Nat.ne_of_lt HQ2.out) _
      have HB9 : Hid (Below w.heap.size w w9) := by show Below _ _ _; rw [← hw9]; exact HB8.out.setCell HWS.out _
      have HZ9 : Hid (S < w9.heap.size) := by show S < _; rw [← hw9]; simpa using HZ8.out
      rw [hw9]
      clear hw9 HO8 HW8 HY8 HB8 HZ8 HO2 HW2 HY2 HB2 HZ2 hf2 hco
      obtain ⟨g1, hg1, hc1, _, _, _⟩ := HO9.out.at (k := i) (by rw [HL1.out]; exact hiN)
      obtain rfl : S = g1 := by simpa using hg1
      obtain ⟨g2, o2, he2, hc2⟩ := HY9.out.at (k := i) (by rw [ints_length, HBL.out]; exact hk)
      cases he2
      have hcX : w9.cell? ⟨S, i, none⟩ = some (.int .i64 (X2 : Int)) := by rw [hc1, int_at, HG1.out]
      have hcY : w9.cell? ⟨Q, i, none⟩ = some (.int .i64 (Y : Int)) := by
        have := hc2
        rw [getD_ints, HYE.out, Nat.zero_add] at this
        exact this
      have z0 := fun q : Later w9 => q.cell hcX
      have z1 := fun q : Later w9 => q.cell hcY
      clear hc1 hc2 hg1
      refine wp_region_later_tail 15 (by kernel_rfl) (by kernel_rfl) ?_
      simp only [List.take_succ_cons, List.take_zero, List.drop_succ_cons, List.drop_zero]
      repeat (go_big_quiet_step (first | (go_at_call 37; exact Gives.later_same _ (specGfPow_is _ _ _ HP.out _)) | (go_at_call 36; exact Gives.later_same _ (specGfMul_is _ _ _ HMU.out _))))
      refine wpQuiet_nil ?_
      rintro w10 ⟨zz, hz⟩
      have hb10 : Below w9.heap.size w9 w10 := hz ▸ zz.ok
      have HO10 := Lib.hid (HO9.out.below hb10)
      have HW10 : Hid (OwnI w.heap.size (.slice (some ⟨P, 0, none⟩) 11 cc) (0 :: 0 :: 0 :: ints u) w10) := HW9.out.below hb10
      have HY10 := Lib.hid (HY9.out.below hb10)
      have HB10 : Hid (Below w.heap.size w w10) := HB9.out.trans (hb10.mono HB9.out.size)
      have HZ10 : Hid (S < w10.heap.size) := Nat.lt_of_lt_of_le HZ9.out hb10.size
      obtain ⟨g2, hg2, hc2, hf2, _, _⟩ := HO10.out.at (k := i) (by rw [HL1.out]; exact hiN)
      obtain rfl : S = g2 := by simpa using hg2
      obtain ⟨old, hco⟩ : ∃ u, w10.cell? ⟨S, i, none⟩ = some u := ⟨_, hc2⟩
      clear z0 z1 hz zz hb10 hcX hcY hc2 hg2
      go_wp2_with fail
      have O11 : Hid (OwnI S (.slice (some ⟨S, 0, none⟩) N N) (ints (mulP b y (i + 1))) (w10.setCell ⟨S, i, none⟩ (.int .i64 ((X2 ^^^ G : Nat) : Int)))) := by
        show OwnI _ _ _ _
        rw [HMN.out, ints_set]
        exact HO10.out.stored HL1.out i _
      have W11 : Hid (OwnI w.heap.size (.slice (some ⟨P, 0, none⟩) 11 cc) (0 :: 0 :: 0 :: ints u) (w10.setCell ⟨S, i, none⟩ (.int .i64 ((X2 ^^^ G : Nat) : Int)))) := ownI_other HW10.out (Nat.ne_of_lt HPS2.out) _
      have Y11 : Hid (RowI (w10.setCell ⟨S, i, none⟩ (.int .i64 ((X2 ^^^ G : Nat) : Int))) (some ⟨Q, 0, none⟩) (ints b)) := rowI_other HY10.out (Nat.ne_of_lt HQ2.out) _
      have HB11 : Hid (Below w.heap.size w (w10.setCell ⟨S, i, none⟩ (.int .i64 ((X2 ^^^ G : Nat) : Int)))) := HB10.out.setCell HWS.out _
      have HZ11 : Hid (S < (w10.setCell ⟨S, i, none⟩ (.int .i64 ((X2 ^^^ G : Nat) : Int))).heap.size) := by show S < _; simpa using HZ10.out
      go_roundw
      case rel => exact ⟨i + 1, by omega, by rw [← hq] at u1; go_num, O11.out, W11.out, Y11.out, HB11.out, HZ11.out⟩
      case measure => simp [intOf]; omega

end Go.Proofs.YtgmlifhiefknbaaDoor

namespace Go.Proofs.YtgmlifhiefknbaaDoor
open Go.RowKit Go.PlainAid

set_option linter.unusedVariables false

set_option maxHeartbeats 8000000 in
set_option maxRecDepth 100000 in
theorem exEncodeSymbols_of (G : World → Prop) (IMPL : Hid (IEncodeSymbols G)) (a0 : Option Addr) (len cap : Nat) (zs : List Int) (w : World) (hr : IsRow .i64 w a0 len cap zs) (GK : Hid (∀ w', Below w.heap.size w w' → G w')) :
    Calls Tryd.prog 6 #[.slice a0 len cap] w fun e w' => e = .returned (.bool true) ∧ Below w.heap.size w w' := by
  obtain ⟨hr0, hz⟩ := isRow_row hr
  have hcap : len ≤ cap := by
    rcases hr with ⟨_, h1, h2, _⟩ | ⟨x, _, h1, _⟩
    · omega
    · exact h1
  generalize zs.take len = l at hr0 hz
  clear hr
  obtain ⟨v, hv⟩ : ∃ v, encI l = v := ⟨_, rfl⟩
  have hvl : v.length ≤ 11 := by rw [← hv]; exact encI_le l
  obtain ⟨m, hm⟩ : ∃ m, v.length = m := ⟨_, rfl⟩
  have HV := Lib.hid hv
  have HM := Lib.hid hm
  have hm11 : m ≤ 11 := by omega
  have HML := Lib.hid hm11
  have HML2 : Hid ((m : Int) ≤ 9223372036854775807) := by show _ ≤ _; omega
  have t1n : decide (((1 + m : Nat) : Int) < 0) = false := decide_eq_false (by omega)
  have t1l : decide (((1 + len : Nat) : Int) < 0) = false := decide_eq_false (by omega)
  have tmm : (((1 + m : Nat) : Int) != ((1 + m : Nat) : Int)) = false := by simp
  clear hv hvl hm
  by_cases hbig : (1048576 : Int) < (len : Int)
  · go_enter Tryd.func6, Tryd.ntmps6
    go_wp2
    go_ret
    exact ⟨rfl, Below.refl _ _⟩
  have HZ := Lib.hid hz
  have HR0 := Lib.hid hr0
  have HL : Hid (len ≤ 3000000) := by show len ≤ 3000000; omega
  have HL2 : Hid ((len : Int) ≤ 9223372036854775807) := by show _ ≤ _; omega
  clear hz hr0
  go_enter Tryd.func6, Tryd.ntmps6
  have HB0 : Hid (Below w.heap.size w w) := Below.refl _ _
  have SZ0 : Hid (w.heap.size ≤ w.heap.size) := HB0.out.size
  go_wp2_with fail
  refine (toIntS_is a0 len cap l HZ.out (by omega) _ (HR0.out.below HB0.out)).mono ?_
  rintro e w1 ⟨Aa, Ac, rfl, own1, hb1⟩
  rw [HZ.out] at own1
  try rw [HZ.out]
  have A1 : Hid (OwnJ w.heap.size (.slice Aa len Ac) l w1) := own1.toJ HZ.out
  have hcA : Hid (len ≤ Ac) := own1.cap_le HZ.out
  have HB1 : Hid (Below w.heap.size w w1) := HB0.out.trans (hb1.mono HB0.out.size)
  clear own1 hb1 HB0
  have SZ1 : Hid (w.heap.size ≤ w1.heap.size) := HB1.out.size
  go_wp2_with fail
  refine (specEncodeSymbols_is HZ.out A1.out.row v HV.out HL2.out).mono ?_
  rintro e w2 ⟨Va, Vc, rfl, own2, hb2⟩
  rw [HM.out] at own2
  try rw [HM.out]
  have V2 : Hid (OwnJ w1.heap.size (.slice Va m Vc) v w2) := own2.toJ HM.out
  have PAV : Hid (Apt Aa Va) := apt_new A1.out V2.out
  have HB2 : Hid (Below w.heap.size w w2) := HB1.out.trans (hb2.mono HB1.out.size)
  have A2 : Hid (OwnJ w.heap.size (.slice Aa len Ac) l w2) := A1.out.below hb2
  clear A1
  clear own2 hb2 HB1
  clear A2
  have SZ2 : Hid (w.heap.size ≤ w2.heap.size) := HB2.out.size
  go_wp2_with fail
  refine (toIntS_is a0 len cap l HZ.out (by omega) _ (HR0.out.below HB2.out)).mono ?_
  rintro e w3 ⟨Xa, Xc, rfl, own3, hb3⟩
  rw [HZ.out] at own3
  try rw [HZ.out]
  have X3 : Hid (OwnJ w2.heap.size (.slice Xa len Xc) l w3) := own3.toJ HZ.out
  have hcX : Hid (len ≤ Xc) := own3.cap_le HZ.out
  have PVX : Hid (Apt Va Xa) := apt_new V2.out X3.out
  have HB3 : Hid (Below w.heap.size w w3) := HB2.out.trans (hb3.mono HB2.out.size)
  have V3 : Hid (OwnJ w1.heap.size (.slice Va m Vc) v w3) := V2.out.below hb3
  clear V2
  clear own3 hb3 HB2
  have SZ3 : Hid (w.heap.size ≤ w3.heap.size) := HB3.out.size
  go_wp2_with fail
  refine (IMPL.out Xa len Xc l m HML.out v HV.out HM.out HZ.out HL.out hcX.out _ (GK.out _ HB3.out) X3.out.row).mono ?_
  rintro e w4 ⟨Ga, Gc, rfl, _, own4, hb4⟩
  have G4 : Hid (OwnJ w3.heap.size (.slice Ga m Gc) v w4) := own4
  have PVG : Hid (Apt Va Ga) := apt_new V3.out G4.out
  have PXG : Hid (Apt Xa Ga) := apt_new X3.out G4.out
  have HB4 : Hid (Below w.heap.size w w4) := HB3.out.trans (hb4.mono HB3.out.size)
  have V4 : Hid (OwnJ w1.heap.size (.slice Va m Vc) v w4) := V3.out.below hb4
  have X4 : Hid (OwnJ w2.heap.size (.slice Xa len Xc) l w4) := X3.out.below hb4
  clear V3 X3
  clear own4 hb4 HB3
  go_wp2_with fail
  refine (eqIntS_row HM.out G4.out.row V4.out.row HML2.out).mono ?_
  rintro e w5 ⟨rfl, hb5⟩
  have HB5 : Hid (Below w.heap.size w w5) := HB4.out.trans (hb5.mono HB4.out.size)
  have V5 : Hid (OwnJ w1.heap.size (.slice Va m Vc) v w5) := V4.out.below hb5
  have X5 : Hid (OwnJ w2.heap.size (.slice Xa len Xc) l w5) := X4.out.below hb5
  have G5 : Hid (OwnJ w3.heap.size (.slice Ga m Gc) v w5) := G4.out.below hb5
  clear V4 X4 G4
  clear hb5 HB4
  have SZ5 : Hid (w.heap.size ≤ w5.heap.size) := HB5.out.size
  go_wp2_with fail
  refine (toIntS_is a0 len cap l HZ.out (by omega) _ (HR0.out.below HB5.out)).mono ?_
  rintro e w6 ⟨Ta, Tc, rfl, own6, hb6⟩
  rw [HZ.out] at own6
  try rw [HZ.out]
  have T6 : Hid (OwnJ w5.heap.size (.slice Ta len Tc) l w6) := own6.toJ HZ.out
  have hcT : Hid (len ≤ Tc) := own6.cap_le HZ.out
  have PVT : Hid (Apt Va Ta) := apt_new V5.out T6.out
  have PXT : Hid (Apt Xa Ta) := apt_new X5.out T6.out
  have PGT : Hid (Apt Ga Ta) := apt_new G5.out T6.out
  have HB6 : Hid (Below w.heap.size w w6) := HB5.out.trans (hb6.mono HB5.out.size)
  have V6 : Hid (OwnJ w1.heap.size (.slice Va m Vc) v w6) := V5.out.below hb6
  have X6 : Hid (OwnJ w2.heap.size (.slice Xa len Xc) l w6) := X5.out.below hb6
  have G6 : Hid (OwnJ w3.heap.size (.slice Ga m Gc) v w6) := G5.out.below hb6
  clear V5 X5 G5
  clear own6 hb6 HB5
  go_wp2_with fail
  refine (eqIntS_row HZ.out X6.out.row T6.out.row HL2.out).mono ?_
  rintro e w7 ⟨rfl, hb7⟩
  have HB7 : Hid (Below w.heap.size w w7) := HB6.out.trans (hb7.mono HB6.out.size)
  have V7 : Hid (OwnJ w1.heap.size (.slice Va m Vc) v w7) := V6.out.below hb7
  have X7 : Hid (OwnJ w2.heap.size (.slice Xa len Xc) l w7) := X6.out.below hb7
  have G7 : Hid (OwnJ w3.heap.size (.slice Ga m Gc) v w7) := G6.out.below hb7
  have T7 : Hid (OwnJ w5.heap.size (.slice Ta len Tc) l w7) := T6.out.below hb7
  clear V6 X6 G6 T6
  clear hb7 HB6
  clear T7
  obtain ⟨gR, hgR, hBR, hneR⟩ := X7.out.pick
  have HBB : Hid (w.heap.size ≤ gR) := Nat.le_trans SZ2.out hBR
  have NV : Hid (∀ y, Va = some y → y.block ≠ gR) := fun y hy => hneR y.block (V7.out.lo y hy).2 (fun x hx => fun h => PVX.out y x hy hx h.symm)
  have NG : Hid (∀ y, Ga = some y → y.block ≠ gR) := fun y hy => hneR y.block (G7.out.lo y hy).2 (fun x hx => PXG.out x y hx hy)
  clear hneR hBR
  have HGR := Lib.hid hgR
  clear hgR
  go_wp2_with fail
  refine (markIntS_j HZ.out X7.out 1 (by omega) gR HGR.out).mono ?_
  rintro e w8 ⟨rfl, own8, ho8⟩
  have HB8 : Hid (Below w.heap.size w w8) := HB7.out.trans (ho8.below HBB.out HB7.out.size)
  have V8 : Hid (OwnJ w1.heap.size (.slice Va m Vc) v w8) := V7.out.keep ho8 NV.out
  have G8 : Hid (OwnJ w3.heap.size (.slice Ga m Gc) v w8) := G7.out.keep ho8 NG.out
  have X8 : Hid (OwnJ w2.heap.size (.slice Xa len Xc) (marksI 1 len) w8) := own8
  clear V7 X7 G7 own8 ho8 HB7 HBB HGR NV NG
  clear X8
  go_wp2_with fail
  refine (eqIntS_row HM.out G8.out.row V8.out.row HML2.out).mono ?_
  rintro e w9 ⟨rfl, hb9⟩
  have HB9 : Hid (Below w.heap.size w w9) := HB8.out.trans (hb9.mono HB8.out.size)
  have V9 : Hid (OwnJ w1.heap.size (.slice Va m Vc) v w9) := V8.out.below hb9
  have G9 : Hid (OwnJ w3.heap.size (.slice Ga m Gc) v w9) := G8.out.below hb9
  clear V8 G8
  clear hb9 HB8
  obtain ⟨gR, hgR, hBR, hneR⟩ := G9.out.pick
  have HBB : Hid (w.heap.size ≤ gR) := Nat.le_trans SZ3.out hBR
  have NV : Hid (∀ y, Va = some y → y.block ≠ gR) := fun y hy => hneR y.block (V9.out.lo y hy).2 (fun x hx => fun h => PVG.out y x hy hx h.symm)
  clear hneR hBR
  have HGR := Lib.hid hgR
  clear hgR
  go_wp2_with fail
  refine (markIntS_j HM.out G9.out 1 (by omega) gR HGR.out).mono ?_
  rintro e w10 ⟨rfl, own10, ho10⟩
  have HB10 : Hid (Below w.heap.size w w10) := HB9.out.trans (ho10.below HBB.out HB9.out.size)
  have V10 : Hid (OwnJ w1.heap.size (.slice Va m Vc) v w10) := V9.out.keep ho10 NV.out
  have G10 : Hid (OwnJ w3.heap.size (.slice Ga m Gc) (marksI 1 m) w10) := own10
  clear V9 G9 own10 ho10 HB9 HBB HGR NV
  go_wp2_with fail
  refine (heldIntS_row 1 G10.out.row (by omega)).mono ?_
  rintro e w11 ⟨rfl, hb11⟩
  have HB11 : Hid (Below w.heap.size w w11) := HB10.out.trans (hb11.mono HB10.out.size)
  have V11 : Hid (OwnJ w1.heap.size (.slice Va m Vc) v w11) := V10.out.below hb11
  have G11 : Hid (OwnJ w3.heap.size (.slice Ga m Gc) (marksI 1 m) w11) := G10.out.below hb11
  clear V10 G10
  clear hb11 HB10
  have SZ11 : Hid (w.heap.size ≤ w11.heap.size) := HB11.out.size
  go_wp2_with fail
  refine (toIntS_is a0 len cap l HZ.out (by omega) _ (HR0.out.below HB11.out)).mono ?_
  rintro e w12 ⟨Ua, Uc, rfl, own12, hb12⟩
  rw [HZ.out] at own12
  try rw [HZ.out]
  have U12 : Hid (OwnJ w11.heap.size (.slice Ua len Uc) l w12) := own12.toJ HZ.out
  have hcU : Hid (len ≤ Uc) := own12.cap_le HZ.out
  have PVU : Hid (Apt Va Ua) := apt_new V11.out U12.out
  have PGU : Hid (Apt Ga Ua) := apt_new G11.out U12.out
  have HB12 : Hid (Below w.heap.size w w12) := HB11.out.trans (hb12.mono HB11.out.size)
  have V12 : Hid (OwnJ w1.heap.size (.slice Va m Vc) v w12) := V11.out.below hb12
  have G12 : Hid (OwnJ w3.heap.size (.slice Ga m Gc) (marksI 1 m) w12) := G11.out.below hb12
  clear V11 G11
  clear own12 hb12 HB11
  have SZ12 : Hid (w.heap.size ≤ w12.heap.size) := HB12.out.size
  go_wp2_with fail
  refine (IMPL.out Ua len Uc l m HML.out v HV.out HM.out HZ.out HL.out hcU.out _ (GK.out _ HB12.out) U12.out.row).mono ?_
  rintro e w13 ⟨Ha, Hc, rfl, _, own13, hb13⟩
  have H13 : Hid (OwnJ w12.heap.size (.slice Ha m Hc) v w13) := own13
  have PVH : Hid (Apt Va Ha) := apt_new V12.out H13.out
  have PGH : Hid (Apt Ga Ha) := apt_new G12.out H13.out
  have PUH : Hid (Apt Ua Ha) := apt_new U12.out H13.out
  have HB13 : Hid (Below w.heap.size w w13) := HB12.out.trans (hb13.mono HB12.out.size)
  have V13 : Hid (OwnJ w1.heap.size (.slice Va m Vc) v w13) := V12.out.below hb13
  have G13 : Hid (OwnJ w3.heap.size (.slice Ga m Gc) (marksI 1 m) w13) := G12.out.below hb13
  have U13 : Hid (OwnJ w11.heap.size (.slice Ua len Uc) l w13) := U12.out.below hb13
  clear V12 G12 U12
  clear own13 hb13 HB12
  clear U13
  go_wp2_with fail
  refine (eqIntS_row HM.out H13.out.row V13.out.row HML2.out).mono ?_
  rintro e w14 ⟨rfl, hb14⟩
  have HB14 : Hid (Below w.heap.size w w14) := HB13.out.trans (hb14.mono HB13.out.size)
  have V14 : Hid (OwnJ w1.heap.size (.slice Va m Vc) v w14) := V13.out.below hb14
  have G14 : Hid (OwnJ w3.heap.size (.slice Ga m Gc) (marksI 1 m) w14) := G13.out.below hb14
  have H14 : Hid (OwnJ w12.heap.size (.slice Ha m Hc) v w14) := H13.out.below hb14
  clear V13 G13 H13
  clear hb14 HB13
  clear H14
  go_wp2_with fail
  refine (heldIntS_row 1 G14.out.row (by omega)).mono ?_
  rintro e w15 ⟨rfl, hb15⟩
  have HB15 : Hid (Below w.heap.size w w15) := HB14.out.trans (hb15.mono HB14.out.size)
  have V15 : Hid (OwnJ w1.heap.size (.slice Va m Vc) v w15) := V14.out.below hb15
  have G15 : Hid (OwnJ w3.heap.size (.slice Ga m Gc) (marksI 1 m) w15) := G14.out.below hb15
  clear V14 G14
  clear hb15 HB14
  go_wp2_with fail
  go_ret
  exact ⟨rfl, HB15.out⟩

end Go.Proofs.YtgmlifhiefknbaaDoor

namespace Go.Proofs.YtgmlifhiefknbaaDoor
open Go.RowKit Go.PlainAid

set_option linter.unusedVariables false

set_option maxHeartbeats 2000000 in
theorem sameIntsC_is {a b : Option Addr} {ca cb : Nat} {l : List Int} {w : World} {n : Nat} (hn : l.length = n) (ha : RowI w a l) (hb : RowI w b l) (hl : (n : Int) ≤ 9223372036854775807) :
    Calls Tryd.prog 14 #[.slice a n ca, .slice b n cb] w (Gives (.bool true) w) := by
  have HN := Lib.hid hn
  have HA := Lib.hid ha
  have HB := Lib.hid hb
  clear hn ha hb
  go_enter Tryd.func14, Tryd.ntmps14
  go_wp2_with fail
  go_loopw [5] (fun i wr => ∃ k : Nat, k ≤ n ∧ i = .int .i64 k ∧ Below w.heap.size w wr) (fun i _ => n - (intOf i).toNat)
  case atStart => exact ⟨0, Nat.zero_le _, rfl, Below.refl _ _⟩
  case round =>
    obtain ⟨k, hk, rfl, hbr⟩ := hrel
    have HBR := Lib.hid hbr
    clear hbr
    by_cases hlt : k < n
    · obtain ⟨ba, oa, rfl, ha0⟩ := (HA.out.below HBR.out).at (k := k) (by rw [HN.out]; exact hlt)
      obtain ⟨bb, ob, rfl, hb0⟩ := (HB.out.below HBR.out).at (k := k) (by rw [HN.out]; exact hlt)
      generalize l.getD k 0 = r at ha0 hb0
      have za0 := fun q : Later wr => q.cell ha0
      have zb0 := fun q : Later wr => q.cell hb0
      have te : (r != r) = false := by simp
      clear ha0 hb0
      go_wp2_with fail
      refine wp_region_later (by kernel_rfl) (by kernel_rfl) ?_
      repeat (go_big_quiet_step (fail))
      refine wpQuiet_nil ?_
      rintro w2 ⟨zz, hz⟩
      have HB2 : Hid (Below w.heap.size w w2) := HBR.out.trans ((hz ▸ zz.ok : Below wr.heap.size wr w2).mono HBR.out.size)
      clear za0 zb0 hz zz
      go_wp2
      go_roundw
      case rel => exact ⟨k + 1, by omega, by go_num, HB2.out⟩
      case measure => simp [intOf]; omega
    · go_wp2_with fail
      go_ret
      exact ⟨rfl, HBR.out⟩

theorem OwnJ.at0 {B n c g : Nat} {l : List Int} {w : World} (h : OwnJ B (.slice (some ⟨g, 0, none⟩) n c) l w) {k : Nat} (hk : k < l.length) :
    w.cell? ⟨g, k, none⟩ = some (.int .i64 (l.getD k 0)) ∧ w.frozen? ⟨g, k, none⟩ = false ∧ B ≤ g ∧ g < w.heap.size := by
  obtain ⟨g', o, e, h1, h2, h3, h4⟩ := h.at hk
  cases e
  rw [Nat.zero_add] at h1 h2
  exact ⟨h1, h2, h3, h4⟩

theorem OwnJ.stored0 {B n c g : Nat} {l : List Int} {w : World} (h : OwnJ B (.slice (some ⟨g, 0, none⟩) n c) l w) (hl : l.length = n) {k : Nat} (hk : k < n) (x : Int) : OwnJ B (.slice (some ⟨g, 0, none⟩) n c) (l.set k x) (w.setCell ⟨g, k, none⟩ (.int .i64 x)) := by
  have := h.stored hl hk x
  rwa [Nat.zero_add] at this

theorem place_in {l : List Int} (hl : l.length = 12) (hp : ∀ x ∈ l, 0 ≤ x ∧ x ≤ 9999) (k : Nat) (hk : k < 12) : 0 ≤ l.getD k 0 ∧ l.getD k 0 ≤ 9999 := by
  rw [List.getD_eq_getElem?_getD, List.getElem?_eq_getElem (show k < l.length by omega)]
  exact hp _ (List.getElem_mem _)

theorem tmodN {p : Int} (h : 0 ≤ p) (m : Nat) (hm : 0 < m) : ∃ n : Nat, p.tmod (m : Int) = (n : Int) ∧ n < m := by
  rw [Int.tmod_eq_emod_of_nonneg h]
  have h1 := Int.emod_nonneg p (show (m : Int) ≠ 0 by omega)
  have h2 := Int.emod_lt_of_pos p (show (0 : Int) < (m : Int) by omega)
  exact ⟨(p % (m : Int)).toNat, by omega, by omega⟩

end Go.Proofs.YtgmlifhiefknbaaDoor

namespace Go.Proofs.YtgmlifhiefknbaaDoor
open Go.RowKit Go.PlainAid

set_option linter.unusedVariables false

set_option maxHeartbeats 8000000 in
set_option maxRecDepth 100000 in
theorem fnCorrects_of (G : World → Prop) (ENC : Hid (IEncodeSymbols G)) (WOK : Hid IWordOk) (SOK : Hid ISymbolsOk) (COR : Hid ICorrectWord) (DAT : Hid IDataOf) (a0 : Option Addr) (len cap : Nat) (zs : List Int) (w : World) (hr : IsRow .u8 w a0 len cap zs) (GK : Hid (∀ w', Below w.heap.size w w' → G w')) :
    Calls Tryd.prog 3 #[.slice a0 len cap] w fun e w' => e = .returned (.bool true) ∧ Below w.heap.size w w' := by
  have hl := hr.len_le
  unfold maxLen at hl
  by_cases hbig : (1048576 : Int) < (len : Int)
  · go_enter Tryd.func3, Tryd.ntmps3
    go_wp2_with (go_at_call 7; refine (big_any _ _ _ _ (by omega)).mono ?_; rintro e w' ⟨rfl, rfl⟩)
    go_ret
    exact ⟨rfl, Below.refl _ _⟩
  have HR := Lib.hid hr
  clear hr
  go_enter Tryd.func3, Tryd.ntmps3
  go_wp2_with (go_at_call 7; refine (big_any _ _ _ _ (by omega)).mono ?_; rintro e w' ⟨rfl, rfl⟩)
  have HB0 : Hid (Below w.heap.size w w) := Below.refl _ _
  have SZ0 : Hid (w.heap.size ≤ w.heap.size) := HB0.out.size
  refine (drawData_any (HR.out.below (fun x h => HR.out.lt h) HB0.out)).mono ?_
  rintro e w1 ⟨Dg, Dc, l, rfl, hll, hel, own1, hb1⟩
  have hcD : Hid (8 ≤ Dc) := own1.cap_le hll
  have HLl := Lib.hid hll
  have HEl := Lib.hid hel
  clear hll hel
  have D1 : Hid (OwnJ w.heap.size (.slice (some ⟨Dg, 0, none⟩) 8 Dc) l w1) := own1.toJ HLl.out
  have HB1 : Hid (Below w.heap.size w w1) := HB0.out.trans (hb1.mono HB0.out.size)
  clear own1 hb1 HB0
  have SZ1 : Hid (w.heap.size ≤ w1.heap.size) := HB1.out.size
  go_wp2_with fail
  refine (drawPlaces_any (HR.out.below (fun x h => HR.out.lt h) HB1.out)).mono ?_
  rintro e w2 ⟨Pg, Pc, lp, rfl, hlp, hpo, own2, hb2⟩
  have HLP := Lib.hid hlp
  have HPO := Lib.hid hpo
  clear hlp hpo
  have P2 : Hid (OwnJ w1.heap.size (.slice (some ⟨Pg, 0, none⟩) 12 Pc) lp w2) := own2.toJ HLP.out
  have PDP : Hid (Apt (some ⟨Dg, 0, none⟩) (some ⟨Pg, 0, none⟩)) := apt_new D1.out P2.out
  have HB2 : Hid (Below w.heap.size w w2) := HB1.out.trans (hb2.mono HB1.out.size)
  have D2 : Hid (OwnJ w.heap.size (.slice (some ⟨Dg, 0, none⟩) 8 Dc) l w2) := D1.out.below hb2
  clear D1
  clear own2 hb2 HB1
  obtain ⟨p0, hp0⟩ : ∃ p, lp.getD 0 0 = p := ⟨_, rfl⟩
  obtain ⟨p1, hp1⟩ : ∃ p, lp.getD 1 0 = p := ⟨_, rfl⟩
  obtain ⟨k, ek, hk⟩ := tmodN (p := p0) (by rw [← hp0]; exact (place_in HLP.out HPO.out 0 (by decide)).1) 11 (by decide)
  obtain ⟨x, ex, hx⟩ := tmodN (p := p1) (by rw [← hp1]; exact (place_in HLP.out HPO.out 1 (by decide)).1) 15 (by decide)
  obtain ⟨y, hy, hyk, hcor⟩ := cd_one HLl.out HEl.out hk hx
  obtain ⟨wl, hwl⟩ : ∃ u, cwI l = u := ⟨_, rfl⟩
  have HENC : Hid (encI l = wl) := by show _ = _; rw [← hwl]; exact cd_enc HLl.out HEl.out
  have HW11 : Hid (wl.length = 11) := by show _ = _; rw [← hwl]; exact cd_length HLl.out
  rw [hwl] at hyk hcor
  have HGOOD : Hid (decide (goodW wl) = true) := by show _ = _; rw [← hwl]; exact decide_eq_true (cd_good HLl.out HEl.out)
  have HSYM : Hid (decide (SymOk wl 11) = true) := by show _ = _; rw [← hwl]; exact decide_eq_true (cd_sym HLl.out HEl.out)
  have HCOR0 : Hid (corW wl = (wl, 0, -1)) := by show _ = _; rw [← hwl]; exact cd_cor HLl.out HEl.out
  have HDAT : Hid (dataI wl = l) := by show _ = _; rw [← hwl]; exact cd_data HLl.out HEl.out
  have HP0 := Lib.hid hp0
  have HP1 := Lib.hid hp1
  have HK := Lib.hid hk
  have HYK := Lib.hid hyk
  have EK : Hid (p0.tmod 11 = (k : Int)) := ek
  have EX : Hid (p1.tmod 15 = (x : Int)) := ex
  have HX16 : Hid (bits .xor .i64 (y : Int) (1 + (x : Int)) = ((y ^^^ (1 + x) : Nat) : Int)) := by
    show _ = _
    rw [show (1 : Int) + (x : Int) = ((1 + x : Nat) : Int) by omega]
    exact i64_xor_nat _ _ (by omega) (by omega)
  generalize y ^^^ (1 + x) = yx at hcor HX16
  have HCOR1 := Lib.hid hcor
  have HB11 : Hid ((wl.set k (yx : Int)).length = 11) := by show _ = _; rw [List.length_set]; exact HW11.out
  have HX := Lib.hid hx
  clear hp0 hp1 hk hyk hcor ek ex hwl hy hx
  have SZ2 : Hid (w.heap.size ≤ w2.heap.size) := HB2.out.size
  go_wp2_with fail
  refine (ENC.out (some ⟨Dg, 0, none⟩) 8 Dc l 11 (by decide) wl HENC.out HW11.out HLl.out (by decide) hcD.out _ (GK.out _ HB2.out) D2.out.row).mono ?_
  rintro e w3 ⟨Ca, Cc, rfl, hcC', own3, hb3⟩
  have hcC := Lib.hid hcC'
  clear hcC'
  have C3 : Hid (OwnJ w2.heap.size (.slice Ca 11 Cc) wl w3) := own3
  have PDC : Hid (Apt (some ⟨Dg, 0, none⟩) Ca) := apt_new D2.out C3.out
  have PPC : Hid (Apt (some ⟨Pg, 0, none⟩) Ca) := apt_new P2.out C3.out
  have HB3 : Hid (Below w.heap.size w w3) := HB2.out.trans (hb3.mono HB2.out.size)
  have D3 : Hid (OwnJ w.heap.size (.slice (some ⟨Dg, 0, none⟩) 8 Dc) l w3) := D2.out.below hb3
  have P3 : Hid (OwnJ w1.heap.size (.slice (some ⟨Pg, 0, none⟩) 12 Pc) lp w3) := P2.out.below hb3
  clear D2 P2
  clear own3 hb3 HB2
  obtain ⟨Cg, Co, rfl, _⟩ := C3.out.at (k := 0) (by rw [HW11.out]; decide)
  go_wp2_with fail
  refine (WOK.out (some ⟨Cg, Co, none⟩) 11 Cc wl true HGOOD.out HW11.out (by decide) hcC.out _ C3.out.row).mono ?_
  rintro e w4 ⟨rfl, hb4⟩
  have HB4 : Hid (Below w.heap.size w w4) := HB3.out.trans (hb4.mono HB3.out.size)
  have D4 : Hid (OwnJ w.heap.size (.slice (some ⟨Dg, 0, none⟩) 8 Dc) l w4) := D3.out.below hb4
  have P4 : Hid (OwnJ w1.heap.size (.slice (some ⟨Pg, 0, none⟩) 12 Pc) lp w4) := P3.out.below hb4
  have C4 : Hid (OwnJ w2.heap.size (.slice (some ⟨Cg, Co, none⟩) 11 Cc) wl w4) := C3.out.below hb4
  clear D3 P3 C3
  clear hb4 HB3
  go_wp2_with fail
  refine (SOK.out (some ⟨Cg, Co, none⟩) 11 Cc wl 11 true HSYM.out HW11.out (by decide) hcC.out _ C4.out.row).mono ?_
  rintro e w5 ⟨rfl, hb5⟩
  have HB5 : Hid (Below w.heap.size w w5) := HB4.out.trans (hb5.mono HB4.out.size)
  have D5 : Hid (OwnJ w.heap.size (.slice (some ⟨Dg, 0, none⟩) 8 Dc) l w5) := D4.out.below hb5
  have P5 : Hid (OwnJ w1.heap.size (.slice (some ⟨Pg, 0, none⟩) 12 Pc) lp w5) := P4.out.below hb5
  have C5 : Hid (OwnJ w2.heap.size (.slice (some ⟨Cg, Co, none⟩) 11 Cc) wl w5) := C4.out.below hb5
  clear D4 P4 C4
  clear hb5 HB4
  have SZ5 : Hid (w.heap.size ≤ w5.heap.size) := HB5.out.size
  have hbA : Below w5.heap.size w5 (w5.alloc (.cells #[] 3)) := (Below.refl _ _).alloc (Nat.le_refl _) _
  have ownA : OwnI w5.heap.size (.slice (some ⟨w5.heap.size, 0, none⟩) 0 0) [] (w5.alloc (.cells #[] 3)) := World.ownsRow_made (base := w5.heap.size) (e := 3) (size := 1) w5 #[] 0 (Nat.le_refl _) (by decide) rfl
  have HRA := Lib.hid (C5.out.row.below hbA)
  have hSA : w5.heap.size ≤ (w5.alloc (.cells #[] 3)).heap.size := by simp
  go_wp2_with (at_builtin; refine append_int rfl _ _ rfl w5.heap.size _ 0 [] rfl ownA rfl (some ⟨Cg, Co, none⟩) 11 Cc wl rfl HW11.out (fun h => by cases h) HRA.out (by omega) hSA ?_)
  intro vA w6 ownB hgrow _
  (try rw [List.nil_append] at ownB)
  have hb6 : Below w5.heap.size w5 w6 := hbA.grown hgrow hSA (fun j hj => by have := Option.some.inj hj; have h2 : w5.heap.size = j := this; omega)
  obtain ⟨Bx, Bc, hvA⟩ := ownB.shape
  subst hvA
  rw [HW11.out] at ownB
  obtain ⟨Bg, rfl, _, _, _, _⟩ := ownB.at (k := 0) (by rw [HW11.out]; decide)
  have own6 := ownB.toJ HW11.out
  have hcB : Hid (11 ≤ Bc) := ownB.cap_le HW11.out
  try rw [HW11.out]
  clear ownB hgrow ownA hbA HRA hSA
  have B6 : Hid (OwnJ w5.heap.size (.slice (some ⟨Bg, 0, none⟩) 11 Bc) wl w6) := own6
  have PDB : Hid (Apt (some ⟨Dg, 0, none⟩) (some ⟨Bg, 0, none⟩)) := apt_new D5.out B6.out
  have PPB : Hid (Apt (some ⟨Pg, 0, none⟩) (some ⟨Bg, 0, none⟩)) := apt_new P5.out B6.out
  have PCB : Hid (Apt (some ⟨Cg, Co, none⟩) (some ⟨Bg, 0, none⟩)) := apt_new C5.out B6.out
  have HB6 : Hid (Below w.heap.size w w6) := HB5.out.trans (hb6.mono HB5.out.size)
  have D6 : Hid (OwnJ w.heap.size (.slice (some ⟨Dg, 0, none⟩) 8 Dc) l w6) := D5.out.below hb6
  have P6 : Hid (OwnJ w1.heap.size (.slice (some ⟨Pg, 0, none⟩) 12 Pc) lp w6) := P5.out.below hb6
  have C6 : Hid (OwnJ w2.heap.size (.slice (some ⟨Cg, Co, none⟩) 11 Cc) wl w6) := C5.out.below hb6
  clear D5 P5 C5
  clear own6 hb6 HB5
  obtain ⟨ce, cf, cB, cS⟩ := B6.out.at0 (k := k) (by rw [HW11.out]; exact HK.out)
  rw [HYK.out] at ce
  have pe0 := (P6.out.at0 (k := 0) (by rw [HLP.out]; decide)).1
  have pe1 := (P6.out.at0 (k := 1) (by rw [HLP.out]; decide)).1
  rw [HP0.out] at pe0
  rw [HP1.out] at pe1
  have ek := EK.out
  have ex := EX.out
  have hk := HK.out
  have hk' : (k : Int) < 11 := by omega
  have hx15 := HX.out
  have wk : IntKind.i64.wrap (k : Int) = (k : Int) := IntWalk.i64_in _ (by omega)
  have wx : IntKind.i64.wrap (x : Int) = (x : Int) := IntWalk.i64_in _ (by omega)
  have w1x : IntKind.i64.wrap (1 + (x : Int)) = 1 + (x : Int) := IntWalk.i64_in _ (by omega)
  have hxx := HX16.out
  go_wp2_with fail
  have z0 := fun q : Later w6 => q.cell ce
  have z1 := fun q : Later w6 => q.cell pe0
  have z2 := fun q : Later w6 => q.cell pe1
  refine wp_region_later_tail 12 (by kernel_rfl) (by kernel_rfl) ?_
  simp only [List.take_succ_cons, List.take_zero, List.drop_succ_cons, List.drop_zero]
  repeat (go_big_quiet_step (fail))
  refine wpQuiet_nil ?_
  rintro w7 ⟨zz, rfl⟩
  have hb7 := zz.ok
  clear z0 z1 z2 ce pe0 pe1
  have HB7 : Hid (Below w.heap.size w zz.to) := HB6.out.trans (hb7.mono HB6.out.size)
  have D7 : Hid (OwnJ w.heap.size (.slice (some ⟨Dg, 0, none⟩) 8 Dc) l zz.to) := D6.out.below hb7
  have P7 : Hid (OwnJ w1.heap.size (.slice (some ⟨Pg, 0, none⟩) 12 Pc) lp zz.to) := P6.out.below hb7
  have C7 : Hid (OwnJ w2.heap.size (.slice (some ⟨Cg, Co, none⟩) 11 Cc) wl zz.to) := C6.out.below hb7
  have B7 : Hid (OwnJ w5.heap.size (.slice (some ⟨Bg, 0, none⟩) 11 Bc) wl zz.to) := B6.out.below hb7
  clear D6 P6 C6 B6
  clear hb7 HB6
  generalize zz.to = w7 at D7 P7 C7 B7 HB7 ⊢
  clear cf cB cS ek ex wx w1x hxx
  obtain ⟨ce, cf, cB, cS⟩ := B7.out.at0 (k := k) (by rw [HW11.out]; exact HK.out)
  have D8 : Hid (OwnJ w.heap.size (.slice (some ⟨Dg, 0, none⟩) 8 Dc) l (w7.setCell ⟨Bg, k, none⟩ (.int .i64 (yx : Int)))) := D7.out.set (p := ⟨Bg, k, none⟩) (fun x hx => PDB.out x ⟨Bg, 0, none⟩ hx rfl) _
  have P8 : Hid (OwnJ w1.heap.size (.slice (some ⟨Pg, 0, none⟩) 12 Pc) lp (w7.setCell ⟨Bg, k, none⟩ (.int .i64 (yx : Int)))) := P7.out.set (p := ⟨Bg, k, none⟩) (fun x hx => PPB.out x ⟨Bg, 0, none⟩ hx rfl) _
  have C8 : Hid (OwnJ w2.heap.size (.slice (some ⟨Cg, Co, none⟩) 11 Cc) wl (w7.setCell ⟨Bg, k, none⟩ (.int .i64 (yx : Int)))) := C7.out.set (p := ⟨Bg, k, none⟩) (fun x hx => PCB.out x ⟨Bg, 0, none⟩ hx rfl) _
  have B8 : Hid (OwnJ w5.heap.size (.slice (some ⟨Bg, 0, none⟩) 11 Bc) (wl.set k (yx : Int)) (w7.setCell ⟨Bg, k, none⟩ (.int .i64 (yx : Int)))) := B7.out.stored0 HW11.out HK.out _
  have HB8 : Hid (Below w.heap.size w (w7.setCell ⟨Bg, k, none⟩ (.int .i64 (yx : Int)))) := HB7.out.setCell (Nat.le_trans SZ5.out cB) _
  clear D7 P7 C7 B7 HB7 cB cS
  go_wp2_with fail
  clear ce cf
  generalize (w7.setCell ⟨Bg, k, none⟩ (.int .i64 (yx : Int))) = w8 at D8 P8 C8 B8 HB8 ⊢
  have SZ8 : Hid (w.heap.size ≤ w8.heap.size) := HB8.out.size
  refine (COR.out (some ⟨Bg, 0, none⟩) 11 Bc (wl.set k (yx : Int)) 11 (by decide) (wl, 1, (k : Int)) HCOR1.out HW11.out HB11.out (by decide) hcB.out _ B8.out.row).mono ?_
  rintro e w9 ⟨Xa, Xc, rfl, hcX', own9, hb9⟩
  have hcX := Lib.hid hcX'
  clear hcX'
  have X9 : Hid (OwnJ w8.heap.size (.slice Xa 11 Xc) wl w9) := own9
  have PDX : Hid (Apt (some ⟨Dg, 0, none⟩) Xa) := apt_new D8.out X9.out
  have PPX : Hid (Apt (some ⟨Pg, 0, none⟩) Xa) := apt_new P8.out X9.out
  have PCX : Hid (Apt (some ⟨Cg, Co, none⟩) Xa) := apt_new C8.out X9.out
  have PBX : Hid (Apt (some ⟨Bg, 0, none⟩) Xa) := apt_new B8.out X9.out
  have HB9 : Hid (Below w.heap.size w w9) := HB8.out.trans (hb9.mono HB8.out.size)
  have D9 : Hid (OwnJ w.heap.size (.slice (some ⟨Dg, 0, none⟩) 8 Dc) l w9) := D8.out.below hb9
  have P9 : Hid (OwnJ w1.heap.size (.slice (some ⟨Pg, 0, none⟩) 12 Pc) lp w9) := P8.out.below hb9
  have C9 : Hid (OwnJ w2.heap.size (.slice (some ⟨Cg, Co, none⟩) 11 Cc) wl w9) := C8.out.below hb9
  have B9 : Hid (OwnJ w5.heap.size (.slice (some ⟨Bg, 0, none⟩) 11 Bc) (wl.set k (yx : Int)) w9) := B8.out.below hb9
  clear D8 P8 C8 B8
  clear own9 hb9 HB8
  have SZ9 : Hid (w.heap.size ≤ w9.heap.size) := HB9.out.size
  go_wp2_with fail
  refine (COR.out (some ⟨Cg, Co, none⟩) 11 Cc wl 11 (by decide) (wl, 0, -1) HCOR0.out HW11.out HW11.out (by decide) hcC.out _ C9.out.row).mono ?_
  rintro e w10 ⟨Ya, Yc, rfl, hcY', own10, hb10⟩
  have hcY := Lib.hid hcY'
  clear hcY'
  have Y10 : Hid (OwnJ w9.heap.size (.slice Ya 11 Yc) wl w10) := own10
  have PDY : Hid (Apt (some ⟨Dg, 0, none⟩) Ya) := apt_new D9.out Y10.out
  have PPY : Hid (Apt (some ⟨Pg, 0, none⟩) Ya) := apt_new P9.out Y10.out
  have PCY : Hid (Apt (some ⟨Cg, Co, none⟩) Ya) := apt_new C9.out Y10.out
  have PBY : Hid (Apt (some ⟨Bg, 0, none⟩) Ya) := apt_new B9.out Y10.out
  have PXY : Hid (Apt Xa Ya) := apt_new X9.out Y10.out
  have HB10 : Hid (Below w.heap.size w w10) := HB9.out.trans (hb10.mono HB9.out.size)
  have D10 : Hid (OwnJ w.heap.size (.slice (some ⟨Dg, 0, none⟩) 8 Dc) l w10) := D9.out.below hb10
  have P10 : Hid (OwnJ w1.heap.size (.slice (some ⟨Pg, 0, none⟩) 12 Pc) lp w10) := P9.out.below hb10
  have C10 : Hid (OwnJ w2.heap.size (.slice (some ⟨Cg, Co, none⟩) 11 Cc) wl w10) := C9.out.below hb10
  have B10 : Hid (OwnJ w5.heap.size (.slice (some ⟨Bg, 0, none⟩) 11 Bc) (wl.set k (yx : Int)) w10) := B9.out.below hb10
  have X10 : Hid (OwnJ w8.heap.size (.slice Xa 11 Xc) wl w10) := X9.out.below hb10
  clear D9 P9 C9 B9 X9
  clear own10 hb10 HB9
  have tkk : ((k : Int) == (k : Int)) = true := beq_self_eq_true _
  have tkk' : (k == k) = true := beq_self_eq_true _
  go_wp2_with fail
  refine (sameIntsC_is HW11.out X10.out.row C10.out.row (by decide)).mono ?_
  rintro e w11 ⟨rfl, hb11⟩
  have HB11 : Hid (Below w.heap.size w w11) := HB10.out.trans (hb11.mono HB10.out.size)
  have D11 : Hid (OwnJ w.heap.size (.slice (some ⟨Dg, 0, none⟩) 8 Dc) l w11) := D10.out.below hb11
  have P11 : Hid (OwnJ w1.heap.size (.slice (some ⟨Pg, 0, none⟩) 12 Pc) lp w11) := P10.out.below hb11
  have C11 : Hid (OwnJ w2.heap.size (.slice (some ⟨Cg, Co, none⟩) 11 Cc) wl w11) := C10.out.below hb11
  have B11 : Hid (OwnJ w5.heap.size (.slice (some ⟨Bg, 0, none⟩) 11 Bc) (wl.set k (yx : Int)) w11) := B10.out.below hb11
  have X11 : Hid (OwnJ w8.heap.size (.slice Xa 11 Xc) wl w11) := X10.out.below hb11
  have Y11 : Hid (OwnJ w9.heap.size (.slice Ya 11 Yc) wl w11) := Y10.out.below hb11
  clear D10 P10 C10 B10 X10 Y10
  clear hb11 HB10
  have SZ11 : Hid (w.heap.size ≤ w11.heap.size) := HB11.out.size
  go_wp2_with fail
  refine (DAT.out Xa 11 Xc wl 8 (by decide) l HDAT.out HLl.out HW11.out (by decide) hcX.out _ X11.out.row).mono ?_
  rintro e w12 ⟨Za, Zc, rfl, hcZ', own12, hb12⟩
  have hcZ := Lib.hid hcZ'
  clear hcZ'
  have Z12 : Hid (OwnJ w11.heap.size (.slice Za 8 Zc) l w12) := own12
  have PDZ : Hid (Apt (some ⟨Dg, 0, none⟩) Za) := apt_new D11.out Z12.out
  have PPZ : Hid (Apt (some ⟨Pg, 0, none⟩) Za) := apt_new P11.out Z12.out
  have PCZ : Hid (Apt (some ⟨Cg, Co, none⟩) Za) := apt_new C11.out Z12.out
  have PBZ : Hid (Apt (some ⟨Bg, 0, none⟩) Za) := apt_new B11.out Z12.out
  have PXZ : Hid (Apt Xa Za) := apt_new X11.out Z12.out
  have PYZ : Hid (Apt Ya Za) := apt_new Y11.out Z12.out
  have HB12 : Hid (Below w.heap.size w w12) := HB11.out.trans (hb12.mono HB11.out.size)
  have D12 : Hid (OwnJ w.heap.size (.slice (some ⟨Dg, 0, none⟩) 8 Dc) l w12) := D11.out.below hb12
  have P12 : Hid (OwnJ w1.heap.size (.slice (some ⟨Pg, 0, none⟩) 12 Pc) lp w12) := P11.out.below hb12
  have C12 : Hid (OwnJ w2.heap.size (.slice (some ⟨Cg, Co, none⟩) 11 Cc) wl w12) := C11.out.below hb12
  have B12 : Hid (OwnJ w5.heap.size (.slice (some ⟨Bg, 0, none⟩) 11 Bc) (wl.set k (yx : Int)) w12) := B11.out.below hb12
  have X12 : Hid (OwnJ w8.heap.size (.slice Xa 11 Xc) wl w12) := X11.out.below hb12
  have Y12 : Hid (OwnJ w9.heap.size (.slice Ya 11 Yc) wl w12) := Y11.out.below hb12
  clear D11 P11 C11 B11 X11 Y11
  clear own12 hb12 HB11
  go_wp2_with fail
  refine (sameIntsC_is HLl.out Z12.out.row D12.out.row (by decide)).mono ?_
  rintro e w13 ⟨rfl, hb13⟩
  have HB13 : Hid (Below w.heap.size w w13) := HB12.out.trans (hb13.mono HB12.out.size)
  have D13 : Hid (OwnJ w.heap.size (.slice (some ⟨Dg, 0, none⟩) 8 Dc) l w13) := D12.out.below hb13
  have P13 : Hid (OwnJ w1.heap.size (.slice (some ⟨Pg, 0, none⟩) 12 Pc) lp w13) := P12.out.below hb13
  have C13 : Hid (OwnJ w2.heap.size (.slice (some ⟨Cg, Co, none⟩) 11 Cc) wl w13) := C12.out.below hb13
  have B13 : Hid (OwnJ w5.heap.size (.slice (some ⟨Bg, 0, none⟩) 11 Bc) (wl.set k (yx : Int)) w13) := B12.out.below hb13
  have X13 : Hid (OwnJ w8.heap.size (.slice Xa 11 Xc) wl w13) := X12.out.below hb13
  have Y13 : Hid (OwnJ w9.heap.size (.slice Ya 11 Yc) wl w13) := Y12.out.below hb13
  have Z13 : Hid (OwnJ w11.heap.size (.slice Za 8 Zc) l w13) := Z12.out.below hb13
  clear D12 P12 C12 B12 X12 Y12 Z12
  clear hb13 HB12
  go_wp2_with fail
  refine (sameIntsC_is HW11.out Y13.out.row C13.out.row (by decide)).mono ?_
  rintro e w14 ⟨rfl, hb14⟩
  have HB14 : Hid (Below w.heap.size w w14) := HB13.out.trans (hb14.mono HB13.out.size)
  have D14 : Hid (OwnJ w.heap.size (.slice (some ⟨Dg, 0, none⟩) 8 Dc) l w14) := D13.out.below hb14
  have P14 : Hid (OwnJ w1.heap.size (.slice (some ⟨Pg, 0, none⟩) 12 Pc) lp w14) := P13.out.below hb14
  have C14 : Hid (OwnJ w2.heap.size (.slice (some ⟨Cg, Co, none⟩) 11 Cc) wl w14) := C13.out.below hb14
  have B14 : Hid (OwnJ w5.heap.size (.slice (some ⟨Bg, 0, none⟩) 11 Bc) (wl.set k (yx : Int)) w14) := B13.out.below hb14
  have X14 : Hid (OwnJ w8.heap.size (.slice Xa 11 Xc) wl w14) := X13.out.below hb14
  have Y14 : Hid (OwnJ w9.heap.size (.slice Ya 11 Yc) wl w14) := Y13.out.below hb14
  have Z14 : Hid (OwnJ w11.heap.size (.slice Za 8 Zc) l w14) := Z13.out.below hb14
  clear D13 P13 C13 B13 X13 Y13 Z13
  clear hb14 HB13
  go_wp2_with fail
  go_ret
  exact ⟨rfl, HB14.out⟩

end Go.Proofs.YtgmlifhiefknbaaDoor

namespace Go.Proofs.YtgmlifhiefknbaaDoor
open Go.RowKit Go.PlainAid

set_option linter.unusedVariables false

set_option maxHeartbeats 8000000 in
set_option maxRecDepth 100000 in
theorem fnDistance_of (G : World → Prop) (ENC : Hid (IEncodeSymbols G)) (a0 : Option Addr) (len cap : Nat) (zs : List Int) (w : World) (hr : IsRow .u8 w a0 len cap zs) (GK : Hid (∀ w', Below w.heap.size w w' → G w')) :
    Calls Tryd.prog 4 #[.slice a0 len cap] w fun e w' => e = .returned (.bool true) ∧ Below w.heap.size w w' := by
  have hl := hr.len_le
  unfold maxLen at hl
  by_cases hbig : (1048576 : Int) < (len : Int)
  · go_enter Tryd.func4, Tryd.ntmps4
    go_wp2_with (go_at_call 7; refine (big_any _ _ _ _ (by omega)).mono ?_; rintro e w' ⟨rfl, rfl⟩)
    go_ret
    exact ⟨rfl, Below.refl _ _⟩
  have HR := Lib.hid hr
  clear hr
  go_enter Tryd.func4, Tryd.ntmps4
  go_wp2_with (go_at_call 7; refine (big_any _ _ _ _ (by omega)).mono ?_; rintro e w' ⟨rfl, rfl⟩)
  have HB0 : Hid (Below w.heap.size w w) := Below.refl _ _
  have SZ0 : Hid (w.heap.size ≤ w.heap.size) := HB0.out.size
  refine (drawData_any (HR.out.below (fun x h => HR.out.lt h) HB0.out)).mono ?_
  rintro e w1 ⟨Dg, Dc, l, rfl, hll, hel, own1, hb1⟩
  have hcD : Hid (8 ≤ Dc) := own1.cap_le hll
  have HLl := Lib.hid hll
  have HEl := Lib.hid hel
  clear hll hel
  have D1 : Hid (OwnJ w.heap.size (.slice (some ⟨Dg, 0, none⟩) 8 Dc) l w1) := own1.toJ HLl.out
  have HB1 : Hid (Below w.heap.size w w1) := HB0.out.trans (hb1.mono HB0.out.size)
  clear own1 hb1 HB0
  have SZ1 : Hid (w.heap.size ≤ w1.heap.size) := HB1.out.size
  go_wp2_with fail
  refine (drawPlaces_any (HR.out.below (fun x h => HR.out.lt h) HB1.out)).mono ?_
  rintro e w2 ⟨Pg, Pc, lp, rfl, hlp, hpo, own2, hb2⟩
  have HLP := Lib.hid hlp
  have HPO := Lib.hid hpo
  clear hlp hpo
  have P2 : Hid (OwnJ w1.heap.size (.slice (some ⟨Pg, 0, none⟩) 12 Pc) lp w2) := own2.toJ HLP.out
  have PDP : Hid (Apt (some ⟨Dg, 0, none⟩) (some ⟨Pg, 0, none⟩)) := apt_new D1.out P2.out
  have HB2 : Hid (Below w.heap.size w w2) := HB1.out.trans (hb2.mono HB1.out.size)
  have D2 : Hid (OwnJ w.heap.size (.slice (some ⟨Dg, 0, none⟩) 8 Dc) l w2) := D1.out.below hb2
  clear D1
  clear own2 hb2 HB1
  obtain ⟨p0, hp0⟩ : ∃ p, lp.getD 0 0 = p := ⟨_, rfl⟩
  obtain ⟨p1, hp1⟩ : ∃ p, lp.getD 1 0 = p := ⟨_, rfl⟩
  obtain ⟨i, ei, hi⟩ := tmodN (p := p0) (by rw [← hp0]; exact (place_in HLP.out HPO.out 0 (by decide)).1) 8 (by decide)
  obtain ⟨x, ex, hx⟩ := tmodN (p := p1) (by rw [← hp1]; exact (place_in HLP.out HPO.out 1 (by decide)).1) 15 (by decide)
  obtain ⟨y, hy, hyi, hme, hml, hfar⟩ := cd_far HLl.out HEl.out hi hx
  obtain ⟨wl, hwl⟩ : ∃ u, cwI l = u := ⟨_, rfl⟩
  have HENC : Hid (encI l = wl) := by show _ = _; rw [← hwl]; exact cd_enc HLl.out HEl.out
  have HW11 : Hid (wl.length = 11) := by show _ = _; rw [← hwl]; exact cd_length HLl.out
  rw [hwl] at hfar
  have HXY : Hid (bits .xor .i64 (y : Int) (1 + (x : Int)) = ((y ^^^ (1 + x) : Nat) : Int)) := by
    show _ = _
    rw [show (1 : Int) + (x : Int) = ((1 + x : Nat) : Int) by omega]
    exact i64_xor_nat _ _ (by omega) (by omega)
  generalize y ^^^ (1 + x) = yx at HXY hme hml hfar
  obtain ⟨m, hm⟩ : ∃ u, l.set i (yx : Int) = u := ⟨_, rfl⟩
  rw [hm] at hme hml hfar
  obtain ⟨wm, hwm⟩ : ∃ u, cwI m = u := ⟨_, rfl⟩
  rw [hwm] at hfar
  have HENM : Hid (encI m = wm) := by show _ = _; rw [← hwm]; exact cd_enc hml hme
  have HWM : Hid (wm.length = 11) := by show _ = _; rw [← hwm]; exact cd_length hml
  have HM := Lib.hid hm
  have HML := Lib.hid hml
  have HFAR := Lib.hid hfar
  have HYI := Lib.hid hyi
  have HI := Lib.hid hi
  have HXB := Lib.hid hx
  have EI : Hid (p0.tmod 8 = (i : Int)) := ei
  have EXX : Hid (p1.tmod 15 = (x : Int)) := ex
  have HP0 := Lib.hid hp0
  have HP1 := Lib.hid hp1
  clear hp0 hp1 hi hx ei ex hyi hm hme hml hfar hwl hwm hy
  have SZ2 : Hid (w.heap.size ≤ w2.heap.size) := HB2.out.size
  have hbA : Below w2.heap.size w2 (w2.alloc (.cells #[] 3)) := (Below.refl _ _).alloc (Nat.le_refl _) _
  have ownA : OwnI w2.heap.size (.slice (some ⟨w2.heap.size, 0, none⟩) 0 0) [] (w2.alloc (.cells #[] 3)) := World.ownsRow_made (base := w2.heap.size) (e := 3) (size := 1) w2 #[] 0 (Nat.le_refl _) (by decide) rfl
  have HRA := Lib.hid (D2.out.row.below hbA)
  have hSA : w2.heap.size ≤ (w2.alloc (.cells #[] 3)).heap.size := by simp
  go_wp2_with (at_builtin; refine append_int rfl _ _ rfl w2.heap.size _ 0 [] rfl ownA rfl (some ⟨Dg, 0, none⟩) 8 Dc l rfl HLl.out (fun h => by cases h) HRA.out (by omega) hSA ?_)
  intro vA w3 ownB hgrow _
  (try rw [List.nil_append] at ownB)
  have hb3 : Below w2.heap.size w2 w3 := hbA.grown hgrow hSA (fun j hj => by have := Option.some.inj hj; have h2 : w2.heap.size = j := this; omega)
  obtain ⟨Ex, Ec, hvA⟩ := ownB.shape
  subst hvA
  rw [HLl.out] at ownB
  obtain ⟨Eg, rfl, _, _, _, _⟩ := ownB.at (k := 0) (by rw [HLl.out]; decide)
  have own3 := ownB.toJ HLl.out
  have hcE : Hid (8 ≤ Ec) := ownB.cap_le HLl.out
  try rw [HLl.out]
  clear ownB hgrow ownA hbA HRA hSA
  have E3 : Hid (OwnJ w2.heap.size (.slice (some ⟨Eg, 0, none⟩) 8 Ec) l w3) := own3
  have PDE : Hid (Apt (some ⟨Dg, 0, none⟩) (some ⟨Eg, 0, none⟩)) := apt_new D2.out E3.out
  have PPE : Hid (Apt (some ⟨Pg, 0, none⟩) (some ⟨Eg, 0, none⟩)) := apt_new P2.out E3.out
  have HB3 : Hid (Below w.heap.size w w3) := HB2.out.trans (hb3.mono HB2.out.size)
  have D3 : Hid (OwnJ w.heap.size (.slice (some ⟨Dg, 0, none⟩) 8 Dc) l w3) := D2.out.below hb3
  have P3 : Hid (OwnJ w1.heap.size (.slice (some ⟨Pg, 0, none⟩) 12 Pc) lp w3) := P2.out.below hb3
  clear D2 P2
  clear own3 hb3 HB2
  obtain ⟨ce, cf, cB, cS⟩ := E3.out.at0 (k := i) (by rw [HLl.out]; exact HI.out)
  rw [HYI.out] at ce
  have pe0 := (P3.out.at0 (k := 0) (by rw [HLP.out]; decide)).1
  rw [HP0.out] at pe0
  have pe1 := (P3.out.at0 (k := 1) (by rw [HLP.out]; decide)).1
  rw [HP1.out] at pe1
  have ei := EI.out
  have ex := EXX.out
  have hi := HI.out
  have hi' : (i : Int) < 8 := by omega
  have hx15 := HXB.out
  have wi : IntKind.i64.wrap (i : Int) = (i : Int) := IntWalk.i64_in _ (by omega)
  have wx : IntKind.i64.wrap (x : Int) = (x : Int) := IntWalk.i64_in _ (by omega)
  have w1x : IntKind.i64.wrap (1 + (x : Int)) = 1 + (x : Int) := IntWalk.i64_in _ (by omega)
  have hxx := HXY.out
  go_wp2_with fail
  have SZ3 : Hid (w.heap.size ≤ w3.heap.size) := HB3.out.size
  have z0 := fun q : Later w3 => q.cell ce
  have z1 := fun q : Later w3 => q.cell pe0
  have z2 := fun q : Later w3 => q.cell pe1
  refine wp_region_later_tail 18 (by kernel_rfl) (by kernel_rfl) ?_
  simp only [List.take_succ_cons, List.take_zero, List.drop_succ_cons, List.drop_zero]
  repeat (go_big_quiet_step (fail))
  refine wpQuiet_nil ?_
  rintro w4 ⟨zz, rfl⟩
  have hb4 := zz.ok
  clear z0 z1 z2 ce pe0 pe1
  have HB4 : Hid (Below w.heap.size w zz.to) := HB3.out.trans (hb4.mono HB3.out.size)
  have D4 : Hid (OwnJ w.heap.size (.slice (some ⟨Dg, 0, none⟩) 8 Dc) l zz.to) := D3.out.below hb4
  have P4 : Hid (OwnJ w1.heap.size (.slice (some ⟨Pg, 0, none⟩) 12 Pc) lp zz.to) := P3.out.below hb4
  have E4 : Hid (OwnJ w2.heap.size (.slice (some ⟨Eg, 0, none⟩) 8 Ec) l zz.to) := E3.out.below hb4
  clear D3 P3 E3
  clear hb4 HB3
  generalize zz.to = w4 at D4 P4 E4 HB4 ⊢
  clear cf cB cS ei ex wi wx w1x hxx
  obtain ⟨ce, cf, cB, cS⟩ := E4.out.at0 (k := i) (by rw [HLl.out]; exact HI.out)
  have D5 : Hid (OwnJ w.heap.size (.slice (some ⟨Dg, 0, none⟩) 8 Dc) l (w4.setCell ⟨Eg, i, none⟩ (.int .i64 (yx : Int)))) := D4.out.set (p := ⟨Eg, i, none⟩) (fun x hx => PDE.out x ⟨Eg, 0, none⟩ hx rfl) _
  have P5 : Hid (OwnJ w1.heap.size (.slice (some ⟨Pg, 0, none⟩) 12 Pc) lp (w4.setCell ⟨Eg, i, none⟩ (.int .i64 (yx : Int)))) := P4.out.set (p := ⟨Eg, i, none⟩) (fun x hx => PPE.out x ⟨Eg, 0, none⟩ hx rfl) _
  have E5 : Hid (OwnJ w2.heap.size (.slice (some ⟨Eg, 0, none⟩) 8 Ec) (l.set i (yx : Int)) (w4.setCell ⟨Eg, i, none⟩ (.int .i64 (yx : Int)))) := E4.out.stored0 HLl.out HI.out _
  have HB5 : Hid (Below w.heap.size w (w4.setCell ⟨Eg, i, none⟩ (.int .i64 (yx : Int)))) := HB4.out.setCell (Nat.le_trans SZ2.out cB) _
  clear D4 P4 E4 HB4 cB cS
  go_wp2_with fail
  clear ce cf
  generalize (w4.setCell ⟨Eg, i, none⟩ (.int .i64 (yx : Int))) = w5 at D5 P5 E5 HB5 ⊢
  rw [HM.out] at E5
  clear P5
  have SZ5 : Hid (w.heap.size ≤ w5.heap.size) := HB5.out.size
  refine (ENC.out (some ⟨Dg, 0, none⟩) 8 Dc l 11 (by decide) wl HENC.out HW11.out HLl.out (by decide) hcD.out _ (GK.out _ HB5.out) D5.out.row).mono ?_
  rintro e w6 ⟨Aa, Ac, rfl, hcA', own6, hb6⟩
  have hcA := Lib.hid hcA'
  clear hcA'
  have A6 : Hid (OwnJ w5.heap.size (.slice Aa 11 Ac) wl w6) := own6
  have PDA : Hid (Apt (some ⟨Dg, 0, none⟩) Aa) := apt_new D5.out A6.out
  have PEA : Hid (Apt (some ⟨Eg, 0, none⟩) Aa) := apt_new E5.out A6.out
  have HB6 : Hid (Below w.heap.size w w6) := HB5.out.trans (hb6.mono HB5.out.size)
  have D6 : Hid (OwnJ w.heap.size (.slice (some ⟨Dg, 0, none⟩) 8 Dc) l w6) := D5.out.below hb6
  have E6 : Hid (OwnJ w2.heap.size (.slice (some ⟨Eg, 0, none⟩) 8 Ec) m w6) := E5.out.below hb6
  clear D5 E5
  clear own6 hb6 HB5
  obtain ⟨Ag, Ao, rfl, _⟩ := A6.out.at (k := 0) (by rw [HW11.out]; decide)
  have SZ6 : Hid (w.heap.size ≤ w6.heap.size) := HB6.out.size
  go_wp2_with fail
  refine (ENC.out (some ⟨Eg, 0, none⟩) 8 Ec m 11 (by decide) wm HENM.out HWM.out HML.out (by decide) hcE.out _ (GK.out _ HB6.out) E6.out.row).mono ?_
  rintro e w7 ⟨Ba, Bc, rfl, hcB', own7, hb7⟩
  have hcB := Lib.hid hcB'
  clear hcB'
  have B7 : Hid (OwnJ w6.heap.size (.slice Ba 11 Bc) wm w7) := own7
  have PDB : Hid (Apt (some ⟨Dg, 0, none⟩) Ba) := apt_new D6.out B7.out
  have PEB : Hid (Apt (some ⟨Eg, 0, none⟩) Ba) := apt_new E6.out B7.out
  have PAB : Hid (Apt (some ⟨Ag, Ao, none⟩) Ba) := apt_new A6.out B7.out
  have HB7 : Hid (Below w.heap.size w w7) := HB6.out.trans (hb7.mono HB6.out.size)
  have D7 : Hid (OwnJ w.heap.size (.slice (some ⟨Dg, 0, none⟩) 8 Dc) l w7) := D6.out.below hb7
  have E7 : Hid (OwnJ w2.heap.size (.slice (some ⟨Eg, 0, none⟩) 8 Ec) m w7) := E6.out.below hb7
  have A7 : Hid (OwnJ w5.heap.size (.slice (some ⟨Ag, Ao, none⟩) 11 Ac) wl w7) := A6.out.below hb7
  clear D6 E6 A6
  clear own7 hb7 HB6
  obtain ⟨Bg, Bo, rfl, _⟩ := B7.out.at (k := 0) (by rw [HWM.out]; decide)
  have HRA := Lib.hid A7.out.row
  have HRB := Lib.hid B7.out.row
  go_wp2_with fail
  go_loopw [8, 9] (fun n i wr => ∃ j : Nat, j ≤ 11 ∧ i = .int .i64 j ∧ n = .int .i64 ((cntD wl wm j : Nat) : Int) ∧ ∃ q, wr = w7.drewN q) (fun _ i _ => 12 - (intOf i).toNat)
  case atStart => exact ⟨0, by omega, rfl, rfl, 0, by trivial⟩
  case round =>
    obtain ⟨j, hj, rfl, rfl, q, rfl⟩ := hrel
    by_cases hlt : j < 11
    case neg =>
      obtain rfl : j = 11 := by omega
      (try rw [show ((11 : Nat) : Int) = 11 from rfl])
      have h4 := HFAR.out
      obtain ⟨n, hn⟩ : ∃ n, cntD wl wm 11 = n := ⟨_, rfl⟩
      rw [hn] at h4 ⊢
      have t1 : decide ((4 : Int) ≤ (n : Int)) = true := decide_eq_true (by omega)
      have t2 : decide (4 ≤ n) = true := decide_eq_true h4
      clear hn
      go_wp2_with fail
      go_ret
      exact ⟨rfl, HB7.out.trans ⟨rfl, rfl, rfl, Nat.le_refl _, fun _ _ => rfl⟩⟩
    have hI : decide ((j : Int) < 11) = true := decide_eq_true (by omega)
    have hI' : (j : Int) < 11 := by omega
    have wj : IntKind.i64.wrap ((j : Int) + 1) = (j : Int) + 1 := IntWalk.i64_in _ (by omega)
    obtain ⟨_, _, e1, ca⟩ := HRA.out.at (k := j) (by rw [HW11.out]; exact hlt)
    cases e1
    obtain ⟨_, _, e2, cb⟩ := HRB.out.at (k := j) (by rw [HWM.out]; exact hlt)
    cases e2
    have hcn : cntD wl wm j ≤ j := cntD_le _ _ _
    by_cases heq : wl.getD j 0 = wm.getD j 0
    case pos =>
      have hc1 : Hid (cntD wl wm (j + 1) = cntD wl wm j) := if_pos heq
      rw [heq] at ca
      generalize wm.getD j 0 = v at ca cb
      have tvv : (v != v) = false := by simp
      clear heq
      go_wp2_with fail
      go_quiet (fail)
      go_wp2
      go_roundw
      case rel => exact ⟨j + 1, by omega, by go_num, by rw [hc1.out], _, rfl⟩
      case measure => simp [intOf]; omega
    have hc1 : Hid (cntD wl wm (j + 1) = cntD wl wm j + 1) := if_neg heq
    generalize wl.getD j 0 = u at ca heq
    generalize wm.getD j 0 = v at cb heq
    obtain ⟨cn, hcn'⟩ : ∃ c, cntD wl wm j = c := ⟨_, rfl⟩
    rw [hcn'] at hc1 hcn ⊢
    have tuv : (u != v) = true := by rw [bne_iff_ne]; exact heq
    have wc : IntKind.i64.wrap ((cn : Int) + 1) = (cn : Int) + 1 := IntWalk.i64_in _ (by omega)
    clear heq hcn'
    go_wp2_with fail
    go_quiet (fail)
    go_wp2
    go_roundw
    case rel => exact ⟨j + 1, by omega, by go_num, by rw [hc1.out]; go_num, _, rfl⟩
    case measure => simp [intOf]; omega

end Go.Proofs.YtgmlifhiefknbaaDoor

namespace Go.Proofs.YtgmlifhiefknbaaDoor
open Go.RowKit Go.PlainAid

set_option linter.unusedVariables false

theorem append_u8 {ops : Array Oper} {rest : List Oper} {o : Oper} {a : Act} {w : World} {Q : Exit → Act → World → Prop} (hgd : o.guard = none) (s x : Operand) (ho : o.op = .call { callee := .builtin .append, args := #[s, x], argTypes := #[22, 22] })
    (base : Nat) (v : Value) (n : Nat) (xs : List Int) (hs : a.eval s = v) (hown : w.ownsRow base 5 1 v n (xs.map (Value.int .u8))) (ad : Option Addr) (m c : Nat) (zs : List Int) (hx : a.eval x = .slice ad m c) (hrow : IsRow .u8 w ad m c zs) (hbig : n + m ≤ 3500000) (hbase : base ≤ w.heap.size)
    (h : ∀ v' w', w'.ownsRow base 5 1 v' (n + m) ((xs ++ zs.take m).map (Value.int .u8)) → w.grownBy w' v.ownBlock → (v'.ownBlock = v.ownBlock ∨ v'.ownBlock = some w.heap.size) → wpList Tryd.prog ops Q rest (a.put o.dst v') w') : wpList Tryd.prog ops Q (o :: rest) a w := by
  obtain ⟨i0, hi, hz0, hz1, hz2⟩ := info_parts infoB
  rcases hrow with ⟨rfl, rfl, rfl, rfl⟩ | ⟨ad, rfl, h1, h2, h3, h4, h5⟩
  · refine wpList_append_own_none hgd s x 22 ho base 5 i0 1 Tryd.underlying22 hi v n _ hs hown hx (h v w ?_ ⟨rfl, rfl, rfl, Nat.le_refl _, fun _ _ _ => rfl⟩ (.inl rfl))
    rw [List.take_nil, List.append_nil]
    exact hown
  · have hlm : (zs.take m).length = m := by rw [List.length_take]; omega
    have hfl : ((zs.take m).map (Value.int .u8)).length = m * 1 := by rw [List.length_map, hlm, Nat.mul_one]
    refine wpList_append_own_at _ hgd s x 22 ho base 5 i0 (.int .u8 0) 1 1 Tryd.underlying22 hi hz0 hz1 hz2 rfl (by decide) v n _ hs hown ad m c ((zs.take m).map (Value.int .u8)) hx hfl (fun j u hu => ?_) (fun u hu => by obtain ⟨z, _, rfl⟩ := List.mem_map.1 hu; rfl) (by unfold maxLen; omega) (by omega) hbase ?_
    · rw [List.getElem?_map] at hu
      rcases Nat.lt_or_ge j m with hj | hj
      · rw [List.getElem?_take_of_lt hj] at hu
        have hjz : j < zs.length := by omega
        rw [List.getElem?_eq_getElem hjz] at hu
        cases hu
        rw [h4 j hjz, List.getD_eq_getElem?_getD, List.getElem?_eq_getElem hjz]
        rfl
      · rw [List.getElem?_eq_none (by rw [hlm]; exact hj)] at hu
        cases hu
    · intro v' w' ho2 hg _ hat
      refine h v' w' ?_ hg hat
      rw [List.map_append]
      exact ho2

theorem own_isRow {w : World} {base n : Nat} {v : Value} {l : List Int} (h : w.ownsRow base 5 1 v n (l.map (Value.int .u8))) (hn : l.length = n) (h0 : 0 < n) (h1 : n ≤ maxLen) (hwf : ∀ z ∈ l, (Lit.int .u8 z).wf = true) :
    ∃ g cap, v = .slice (some ⟨g, 0, none⟩) n cap ∧ IsRow .u8 w (some ⟨g, 0, none⟩) n n l ∧ base ≤ g ∧ g < w.heap.size := by
  rcases h.2 with ⟨_, h2⟩ | ⟨g, cap, cur, rfl, hB, hh, _⟩
  · omega
  · refine ⟨g, cap, rfl, .inr ⟨_, rfl, Nat.le_refl _, h1, hn, fun i hi => ?_, hwf⟩, hB, lt_of_block hh⟩
    have := World.ownsRow.cells h (g := g) rfl i (.int .u8 (l.getD i 0)) (by
      rw [List.getElem?_map, List.getElem?_eq_getElem hi, List.getD_eq_getElem?_getD, List.getElem?_eq_getElem hi]
      rfl)
    exact this

theorem isRow_wf {w : World} {a : Option Addr} {len cap : Nat} {zs : List Int} (h : IsRow .u8 w a len cap zs) : ∀ z ∈ zs, (Lit.int .u8 z).wf = true := by
  rcases h with ⟨_, _, _, rfl⟩ | ⟨_, _, _, _, _, _, h5⟩
  · intro z hz; cases hz
  · exact h5

theorem isRow_len {k : IntKind} {w : World} {a : Option Addr} {len cap : Nat} {zs : List Int} (h : IsRow k w a len cap zs) : len ≤ zs.length := by
  rcases h with ⟨_, rfl, _, rfl⟩ | ⟨_, _, h1, _, h3, _⟩
  · exact Nat.le_refl _
  · omega

set_option maxHeartbeats 8000000 in
set_option maxRecDepth 100000 in
theorem fnLinear_of (G : World → Prop) (ENC : Hid (IEncodeSymbols G)) (SYN : Hid ISyndromes) (a0 : Option Addr) (len cap : Nat) (zs : List Int) (w : World) (hr : IsRow .u8 w a0 len cap zs) (GK : Hid (∀ w', Below w.heap.size w w' → G w')) :
    Calls Tryd.prog 5 #[.slice a0 len cap] w fun e w' => e = .returned (.bool true) ∧ Below w.heap.size w w' := by
  have hl := hr.len_le
  unfold maxLen at hl
  by_cases hbig : (1048576 : Int) < (len : Int)
  · go_enter Tryd.func5, Tryd.ntmps5
    go_wp2_with (go_at_call 7; refine (big_any _ _ _ _ (by omega)).mono ?_; rintro e w' ⟨rfl, rfl⟩)
    go_ret
    exact ⟨rfl, Below.refl _ _⟩
  have HR := Lib.hid hr
  clear hr
  go_enter Tryd.func5, Tryd.ntmps5
  go_wp2_with (go_at_call 7; refine (big_any _ _ _ _ (by omega)).mono ?_; rintro e w' ⟨rfl, rfl⟩)
  have HB0 : Hid (Below w.heap.size w w) := Below.refl _ _
  have SZ0 : Hid (w.heap.size ≤ w.heap.size) := HB0.out.size
  refine (drawData_any (HR.out.below (fun x h => HR.out.lt h) HB0.out)).mono ?_
  rintro e w1 ⟨Dg, Dc, l, rfl, hll, hel, own1, hb1⟩
  have hcD : Hid (8 ≤ Dc) := own1.cap_le hll
  have HLl := Lib.hid hll
  have HEl := Lib.hid hel
  clear hll hel
  have D1 : Hid (OwnJ w.heap.size (.slice (some ⟨Dg, 0, none⟩) 8 Dc) l w1) := own1.toJ HLl.out
  have HB1 : Hid (Below w.heap.size w w1) := HB0.out.trans (hb1.mono HB0.out.size)
  clear own1 hb1 HB0
  have SZ1 : Hid (w.heap.size ≤ w1.heap.size) := HB1.out.size
  have HRk := Lib.hid (HR.out.below (fun x h => HR.out.lt h) HB1.out)
  have hbA : Below w1.heap.size w1 (w1.alloc (.cells #[.int .u8 1] 5)) := (Below.refl _ _).alloc (Nat.le_refl _) _
  have ownA : (w1.alloc (.cells #[.int .u8 1] 5)).ownsRow w1.heap.size 5 1 (.slice (some ⟨w1.heap.size, 0, none⟩) 1 1) 1 (([1] : List Int).map (Value.int .u8)) := ⟨rfl, .inr ⟨w1.heap.size, 1, #[.int .u8 1], rfl, Nat.le_refl _, heap_alloc_new _ _, Nat.le_refl _, by decide, rfl, rfl⟩⟩
  have HRA := Lib.hid (HRk.out.below (fun x h hc => HRk.out.lt h hc) hbA)
  have hSA : w1.heap.size ≤ (w1.alloc (.cells #[.int .u8 1] 5)).heap.size := by simp
  go_wp2_with (at_builtin; refine append_u8 rfl _ _ rfl w1.heap.size _ 1 [1] rfl ownA a0 len cap zs rfl HRA.out (by omega) hSA ?_)
  intro vA w2 ownB hgrow _
  have hb2 : Below w1.heap.size w1 w2 := hbA.grown hgrow hSA (fun j hj => by have := Option.some.inj hj; have h2 : w1.heap.size = j := this; omega)
  have hzl : (zs.take len).length = len := by rw [List.length_take]; have := isRow_len HR.out; omega
  have ownC : w2.ownsRow w1.heap.size 5 1 vA (1 + len) (([1] ++ zs.take len).map (Value.int .u8)) := by first | exact ownB | simpa using ownB
  obtain ⟨cg, ccap, hvA, hrB, hBB, hBS⟩ := own_isRow ownC (by rw [List.length_append, hzl]; rfl) (by omega) (by unfold maxLen; omega) (fun z hz => by
    rcases List.mem_append.1 hz with h | h
    · rw [List.mem_singleton.1 h]; rfl
    · exact isRow_wf HR.out z (List.mem_of_mem_take h))
  subst hvA
  have HRB := Lib.hid hrB
  clear ownB ownC hgrow ownA hbA HRA hSA hrB HRk hzl
  have HB2 : Hid (Below w.heap.size w w2) := HB1.out.trans (hb2.mono HB1.out.size)
  have D2 : Hid (OwnJ w.heap.size (.slice (some ⟨Dg, 0, none⟩) 8 Dc) l w2) := D1.out.below hb2
  clear D1
  clear hb2 HB1
  have SZ2 : Hid (w.heap.size ≤ w2.heap.size) := HB2.out.size
  go_wp2_with fail
  refine (drawData_any HRB.out).mono ?_
  rintro e w3 ⟨Eg, Ec, m, rfl, hlm, hem, own3, hb3⟩
  have hcE : Hid (8 ≤ Ec) := own3.cap_le hlm
  have HLm := Lib.hid hlm
  have HEm := Lib.hid hem
  clear hlm hem
  have E3 : Hid (OwnJ w2.heap.size (.slice (some ⟨Eg, 0, none⟩) 8 Ec) m w3) := own3.toJ HLm.out
  have PDE : Hid (Apt (some ⟨Dg, 0, none⟩) (some ⟨Eg, 0, none⟩)) := apt_new D2.out E3.out
  have HB3 : Hid (Below w.heap.size w w3) := HB2.out.trans (hb3.mono HB2.out.size)
  have D3 : Hid (OwnJ w.heap.size (.slice (some ⟨Dg, 0, none⟩) 8 Dc) l w3) := D2.out.below hb3
  clear D2
  clear own3 hb3 HB2
  clear HRB hBB hBS
  obtain ⟨wl, hwl⟩ : ∃ u, cwI l = u := ⟨_, rfl⟩
  have HENC : Hid (encI l = wl) := by show _ = _; rw [← hwl]; exact cd_enc HLl.out HEl.out
  have HW11 : Hid (wl.length = 11) := by show _ = _; rw [← hwl]; exact cd_length HLl.out
  obtain ⟨wm, hwm⟩ : ∃ u, cwI m = u := ⟨_, rfl⟩
  have HENM : Hid (encI m = wm) := by show _ = _; rw [← hwm]; exact cd_enc HLm.out HEm.out
  have HWM : Hid (wm.length = 11) := by show _ = _; rw [← hwm]; exact cd_length HLm.out
  obtain ⟨sm, hsm⟩ : ∃ u, sumI l m = u := ⟨_, rfl⟩
  have hsl : sm.length = 8 := by rw [← hsm]; exact sumI_length HLl.out HLm.out
  have hse : Els sm := by rw [← hsm]; exact sumI_els HEl.out HEm.out
  obtain ⟨ws, hws⟩ : ∃ u, cwI sm = u := ⟨_, rfl⟩
  have HENS : Hid (encI sm = ws) := by show _ = _; rw [← hws]; exact cd_enc hsl hse
  have HWS : Hid (ws.length = 11) := by show _ = _; rw [← hws]; exact cd_length hsl
  have HSYN : Hid (syns ws = [0, 0, 0]) := by show _ = _; rw [← hws]; exact cd_syns hsl hse
  have HTAKE : Hid (∀ k, k < 8 → ∃ x y : Nat, x < 16 ∧ y < 16 ∧ l.getD k 0 = (x : Int) ∧ m.getD k 0 = (y : Int) ∧ sm.take k ++ [((x ^^^ y : Nat) : Int)] = sm.take (k + 1)) := fun k hk => by
    rw [← hsm]; exact sumI_take HEl.out HEm.out HLl.out HLm.out hk
  have HLIN : Hid (∀ k, k < 11 → ∃ x y : Nat, x < 16 ∧ y < 16 ∧ wl.getD k 0 = (x : Int) ∧ wm.getD k 0 = (y : Int) ∧ ws.getD k 0 = ((x ^^^ y : Nat) : Int)) := fun k hk => by
    rw [← hwl, ← hwm, ← hws, ← hsm]; exact cd_lin HLl.out HLm.out HEl.out HEm.out hk
  have HSL := Lib.hid hsl
  clear hwl hwm hsm hws hsl hse
  have SZ3 : Hid (w.heap.size ≤ w3.heap.size) := HB3.out.size
  obtain ⟨i0, hi, hz0, hz1, hz2⟩ := info_parts infoI
  have HRD := Lib.hid D3.out
  have HRE := Lib.hid E3.out
  go_wp2_with fail
  go_loopw [5, 6] (fun v i wr => ∃ j : Nat, j ≤ 8 ∧ i = .int .i64 j ∧ OwnI w3.heap.size v (sm.take j) wr ∧ Below w3.heap.size w3 wr) (fun _ i _ => 9 - (intOf i).toNat)
  case atStart => exact ⟨0, by omega, rfl, World.ownsRow_made (base := w3.heap.size) (e := 3) (size := 1) w3 #[] 0 (Nat.le_refl _) (by decide) rfl, (Below.refl _ _).alloc (Nat.le_refl _) _⟩
  case round =>
    obtain ⟨j, hj, rfl, hown, hbr⟩ := hrel
    have hsr := hbr.size
    by_cases hlt : j < 8
    case pos =>
      have hI : decide ((j : Int) < 8) = true := decide_eq_true (by omega)
      have hI' : (j : Int) < 8 := by omega
      have wj : IntKind.i64.wrap ((j : Int) + 1) = (j : Int) + 1 := IntWalk.i64_in _ (by omega)
      obtain ⟨x, y, hx, hy, e1, e2, e3⟩ := HTAKE.out j hlt
      have ca := ((HRD.out.below hbr).at0 (k := j) (by rw [HLl.out]; exact hlt)).1
      have cb := ((HRE.out.below hbr).at0 (k := j) (by rw [HLm.out]; exact hlt)).1
      rw [e1] at ca
      rw [e2] at cb
      have hxy : bits .xor .i64 (x : Int) (y : Int) = ((x ^^^ y : Nat) : Int) := i64_xor_nat _ _ (by omega) (by omega)
      generalize x ^^^ y = xy at hxy e3
      have HE3 := Lib.hid e3
      have hsjl : (sm.take j).length = j := by rw [List.length_take, HSL.out]; omega
      generalize sm.take j = sj at hown hsjl HE3
      have HL := Lib.hid hsjl
      clear e1 e2 e3 hsjl
      go_wp2_with fail
      go_region_law ((refine step_append_lies _ (by rfl) _ _ _ (by rfl) w3.heap.size 3 i0 (.int .i64 0) 1 8 Tryd.underlying24 hi hz0 hz1 hz2 rfl (by omega) _ _ _ (by rfl) ((World.ownsRow.alloc hown _).drew) ⟨wr.heap.size, 0, none⟩ 1 1 [_] (by rfl) (by rfl) (World.news_of_block (t := 3) (fr := (0, 0)) (heap_alloc_new wr _)) (by simp [Value.oneCell']) (by omega) (by rw [HL.out]; unfold maxLen; omega) (by rw [HL.out]; omega) (by simp; omega) (wr.heap.size + 1) (by simp) ?_; intro gg cap w2 hown2 hgrow hat hltg))
      all_goals
        have R : OwnI w3.heap.size (.slice (some ⟨gg, 0, none⟩) (sj.length + 1) cap) (sm.take (j + 1)) w2 := by rw [← HE3.out]; exact ownI_more hown2
        have hb2 : Below w3.heap.size w3 w2 := ((hbr.alloc hsr _).drew).grown hgrow (by simp; omega) (fun k hk => (World.ownsRow.lt hown k hk).1)
        clear hown2 hgrow hat hown hbr
        go_wp2
        go_roundw
        case rel => exact ⟨j + 1, by omega, by go_num, R, hb2⟩
        case measure => simp [intOf]; omega
    case neg =>
      obtain rfl : j = 8 := by omega
      rw [show sm.take 8 = sm from List.take_of_length_le (by rw [HSL.out]; exact Nat.le_refl _)] at hown
      (try rw [show ((8 : Nat) : Int) = 8 from rfl])
      obtain ⟨Sa, Sc, hv⟩ := hown.shape
      subst hv
      rw [HSL.out] at hown
      have hcS : Hid (8 ≤ Sc) := hown.cap_le HSL.out
      have S4 : Hid (OwnJ w3.heap.size (.slice Sa 8 Sc) sm wr) := hown.toJ HSL.out
      have hb4 := hbr
      (try rw [HSL.out])
      clear hown hbr hsr
      rename World => w4
      have HRD4 := HRD
      have HRE4 := HRE
      clear HRD HRE
      have D3 : Hid (OwnJ w.heap.size (.slice (some ⟨Dg, 0, none⟩) 8 Dc) l w3) := HRD4
      have E3 : Hid (OwnJ w2.heap.size (.slice (some ⟨Eg, 0, none⟩) 8 Ec) m w3) := HRE4
      clear HRD4 HRE4
      have HB4 : Hid (Below w.heap.size w w4) := HB3.out.trans (hb4.mono HB3.out.size)
      have D4 : Hid (OwnJ w.heap.size (.slice (some ⟨Dg, 0, none⟩) 8 Dc) l w4) := D3.out.below hb4
      have E4 : Hid (OwnJ w2.heap.size (.slice (some ⟨Eg, 0, none⟩) 8 Ec) m w4) := E3.out.below hb4
      clear D3 E3
      clear hb4 HB3
      have SZ4 : Hid (w.heap.size ≤ w4.heap.size) := HB4.out.size
      go_wp2_with fail
      refine (ENC.out (some ⟨Dg, 0, none⟩) 8 Dc l 11 (by decide) wl HENC.out HW11.out HLl.out (by decide) hcD.out _ (GK.out _ HB4.out) D4.out.row).mono ?_
      rintro e w5 ⟨Aa, Ac, rfl, hcA', own5, hb5⟩
      have hcA := Lib.hid hcA'
      clear hcA'
      have A5 : Hid (OwnJ w4.heap.size (.slice Aa 11 Ac) wl w5) := own5
      have PDA : Hid (Apt (some ⟨Dg, 0, none⟩) Aa) := apt_new D4.out A5.out
      have PEA : Hid (Apt (some ⟨Eg, 0, none⟩) Aa) := apt_new E4.out A5.out
      have PSA : Hid (Apt Sa Aa) := apt_new S4.out A5.out
      have HB5 : Hid (Below w.heap.size w w5) := HB4.out.trans (hb5.mono HB4.out.size)
      have D5 : Hid (OwnJ w.heap.size (.slice (some ⟨Dg, 0, none⟩) 8 Dc) l w5) := D4.out.below hb5
      have E5 : Hid (OwnJ w2.heap.size (.slice (some ⟨Eg, 0, none⟩) 8 Ec) m w5) := E4.out.below hb5
      have S5 : Hid (OwnJ w3.heap.size (.slice Sa 8 Sc) sm w5) := S4.out.below hb5
      clear D4 E4 S4
      clear own5 hb5 HB4
      obtain ⟨Ag, Ao, rfl, _⟩ := A5.out.at (k := 0) (by rw [HW11.out]; decide)
      have SZ5 : Hid (w.heap.size ≤ w5.heap.size) := HB5.out.size
      go_wp2_with fail
      refine (ENC.out (some ⟨Eg, 0, none⟩) 8 Ec m 11 (by decide) wm HENM.out HWM.out HLm.out (by decide) hcE.out _ (GK.out _ HB5.out) E5.out.row).mono ?_
      rintro e w6 ⟨Ba, Bc, rfl, hcB', own6, hb6⟩
      have hcB := Lib.hid hcB'
      clear hcB'
      have B6 : Hid (OwnJ w5.heap.size (.slice Ba 11 Bc) wm w6) := own6
      have PDB : Hid (Apt (some ⟨Dg, 0, none⟩) Ba) := apt_new D5.out B6.out
      have PEB : Hid (Apt (some ⟨Eg, 0, none⟩) Ba) := apt_new E5.out B6.out
      have PSB : Hid (Apt Sa Ba) := apt_new S5.out B6.out
      have PAB : Hid (Apt (some ⟨Ag, Ao, none⟩) Ba) := apt_new A5.out B6.out
      have HB6 : Hid (Below w.heap.size w w6) := HB5.out.trans (hb6.mono HB5.out.size)
      have D6 : Hid (OwnJ w.heap.size (.slice (some ⟨Dg, 0, none⟩) 8 Dc) l w6) := D5.out.below hb6
      have E6 : Hid (OwnJ w2.heap.size (.slice (some ⟨Eg, 0, none⟩) 8 Ec) m w6) := E5.out.below hb6
      have S6 : Hid (OwnJ w3.heap.size (.slice Sa 8 Sc) sm w6) := S5.out.below hb6
      have A6 : Hid (OwnJ w4.heap.size (.slice (some ⟨Ag, Ao, none⟩) 11 Ac) wl w6) := A5.out.below hb6
      clear D5 E5 S5 A5
      clear own6 hb6 HB5
      obtain ⟨Bg, Bo, rfl, _⟩ := B6.out.at (k := 0) (by rw [HWM.out]; decide)
      have SZ6 : Hid (w.heap.size ≤ w6.heap.size) := HB6.out.size
      go_wp2_with fail
      refine (ENC.out Sa 8 Sc sm 11 (by decide) ws HENS.out HWS.out HSL.out (by decide) hcS.out _ (GK.out _ HB6.out) S6.out.row).mono ?_
      rintro e w7 ⟨Ca, Cc, rfl, hcC', own7, hb7⟩
      have hcC := Lib.hid hcC'
      clear hcC'
      have C7 : Hid (OwnJ w6.heap.size (.slice Ca 11 Cc) ws w7) := own7
      have PDC : Hid (Apt (some ⟨Dg, 0, none⟩) Ca) := apt_new D6.out C7.out
      have PEC : Hid (Apt (some ⟨Eg, 0, none⟩) Ca) := apt_new E6.out C7.out
      have PSC : Hid (Apt Sa Ca) := apt_new S6.out C7.out
      have PAC : Hid (Apt (some ⟨Ag, Ao, none⟩) Ca) := apt_new A6.out C7.out
      have PBC : Hid (Apt (some ⟨Bg, Bo, none⟩) Ca) := apt_new B6.out C7.out
      have HB7 : Hid (Below w.heap.size w w7) := HB6.out.trans (hb7.mono HB6.out.size)
      have D7 : Hid (OwnJ w.heap.size (.slice (some ⟨Dg, 0, none⟩) 8 Dc) l w7) := D6.out.below hb7
      have E7 : Hid (OwnJ w2.heap.size (.slice (some ⟨Eg, 0, none⟩) 8 Ec) m w7) := E6.out.below hb7
      have S7 : Hid (OwnJ w3.heap.size (.slice Sa 8 Sc) sm w7) := S6.out.below hb7
      have A7 : Hid (OwnJ w4.heap.size (.slice (some ⟨Ag, Ao, none⟩) 11 Ac) wl w7) := A6.out.below hb7
      have B7 : Hid (OwnJ w5.heap.size (.slice (some ⟨Bg, Bo, none⟩) 11 Bc) wm w7) := B6.out.below hb7
      clear D6 E6 S6 A6 B6
      clear own7 hb7 HB6
      obtain ⟨Cg, Co, rfl, _⟩ := C7.out.at (k := 0) (by rw [HWS.out]; decide)
      have HRA := Lib.hid A7.out.row
      have HRB := Lib.hid B7.out.row
      have HRC := Lib.hid C7.out
      go_wp2_with fail
      go_loopw [10] (fun i wr => ∃ j : Nat, j ≤ 11 ∧ i = .int .i64 j ∧ ∃ q, wr = w7.drewN q) (fun i _ => 12 - (intOf i).toNat)
      case atStart => exact ⟨0, by omega, rfl, 0, by trivial⟩
      case round =>
        obtain ⟨j, hj, rfl, q, rfl⟩ := hrel
        by_cases hlt : j < 11
        case neg =>
          obtain rfl : j = 11 := by omega
          (try rw [show ((11 : Nat) : Int) = 11 from rfl])
          have HQ : Hid (Below w7.heap.size w7 (w7.drewN q)) := ⟨rfl, rfl, rfl, Nat.le_refl _, fun _ _ => rfl⟩
          go_wp2_with fail
          refine (SYN.out (some ⟨Cg, Co, none⟩) 11 Cc ws 3 (by decide) [0, 0, 0] HSYN.out rfl HWS.out (by decide) hcC.out _ (HRC.out.below HQ.out).row).mono ?_
          rintro e w8 ⟨Ta, Tc, rfl, _, ownT, hbT⟩
          have HBT := Lib.hid hbT
          obtain ⟨Tg, To, rfl, c0, _, _, _⟩ := ownT.at (k := 0) (by decide)
          obtain ⟨_, _, e1, c1, _, _, _⟩ := ownT.at (k := 1) (by decide)
          cases e1
          obtain ⟨_, _, e2, c2, _, _, _⟩ := ownT.at (k := 2) (by decide)
          cases e2
          rw [Nat.add_zero] at c0
          have d0 : w8.cell? ⟨Tg, To, none⟩ = some (.int .i64 0) := c0
          have d1 : w8.cell? ⟨Tg, To + 1, none⟩ = some (.int .i64 0) := c1
          have d2 : w8.cell? ⟨Tg, To + 2, none⟩ = some (.int .i64 0) := c2
          clear c0 c1 c2 ownT hbT
          go_wp2_with fail
          go_ret
          exact ⟨rfl, (HB7.out.trans (HQ.out.mono HB7.out.size)).trans (HBT.out.mono HB7.out.size)⟩
        have hI : decide ((j : Int) < 11) = true := decide_eq_true (by omega)
        have hI' : (j : Int) < 11 := by omega
        have wj : IntKind.i64.wrap ((j : Int) + 1) = (j : Int) + 1 := IntWalk.i64_in _ (by omega)
        obtain ⟨x, y, hx, hy, e1, e2, e3⟩ := HLIN.out j hlt
        obtain ⟨_, _, f1, ca⟩ := HRA.out.at (k := j) (by rw [HW11.out]; exact hlt)
        cases f1
        obtain ⟨_, _, f2, cb⟩ := HRB.out.at (k := j) (by rw [HWM.out]; exact hlt)
        cases f2
        obtain ⟨_, _, f3, cc⟩ := HRC.out.row.at (k := j) (by rw [HWS.out]; exact hlt)
        cases f3
        rw [e1] at ca
        rw [e2] at cb
        rw [e3] at cc
        have hxy : bits .xor .i64 (x : Int) (y : Int) = ((x ^^^ y : Nat) : Int) := i64_xor_nat _ _ (by omega) (by omega)
        generalize x ^^^ y = xy at hxy e3 cc
        have txy : ((xy : Int) != (xy : Int)) = false := by simp
        clear e1 e2 e3
        go_wp2_with fail
        go_quiet (fail)
        go_wp2
        go_roundw
        case rel => exact ⟨j + 1, by omega, by go_num, _, rfl⟩
        case measure => simp [intOf]; omega

end Go.Proofs.YtgmlifhiefknbaaDoor

namespace Go.Proofs.YtgmlifhiefknbaaDoor
open Go.RowKit Go.PlainAid

set_option linter.unusedVariables false

theorem implBad_is (a : Int) (v : Bool) (hv : (!decide (El a)) = v) (w : World) :
    Calls Tryd.prog 29 #[.int .i64 a] w (Says (.bool v) w) := by
  obtain ⟨u, hu⟩ : ∃ u, decide (El a) = u := ⟨_, rfl⟩
  have HE : Hid ((!u) = v) := by show _ = _; rw [← hu]; exact hv
  have HU := Lib.hid hu
  clear hu hv
  go_enter Tryd.func29, Tryd.ntmps29
  go_wp2_with fail
  refine (implIsEl_is a u HU.out _).mono ?_
  rintro e w2 ⟨rfl, rfl⟩
  go_wp2_with fail
  go_ret
  exact ⟨ret_b HE.out, rfl⟩

set_option maxHeartbeats 1000000 in
set_option maxRecDepth 100000 in
theorem implIndexBad_is {a : Option Addr} {n c : Nat} {l : List Int} (hn : l.length = n) (hl : n ≤ 3000000) {w : World} (h : RowI w a l) (v : Bool) (hv : decide (Els l) = v) :
    Calls Tryd.prog 42 #[.slice a n c, .func (.func 29) #[] #[]] w fun e w' => ∃ i : Int, e = .returned (.int .i64 i) ∧ decide (0 ≤ i) = (!v) ∧ w = w' := by
  have HN := Lib.hid hn
  have HA := Lib.hid h
  have HV := Lib.hid hv
  have hl2 : (n : Int) ≤ 9223372036854775807 := by omega
  clear hn h hv
  go_enter Tryd.func42, Tryd.ntmps42
  go_wp2_with fail
  go_loopw [8] (fun i wr => ∃ k : Nat, k ≤ n ∧ i = .int .i64 k ∧ Els (l.take k) ∧ wr = w) (fun i _ => n - (intOf i).toNat)
  case atStart => exact ⟨0, Nat.zero_le _, rfl, (fun v hv => by cases hv), rfl⟩
  case round =>
    obtain ⟨k, hk, rfl, hels, rfl⟩ := hrel
    have HE := Lib.hid hels
    clear hels
    by_cases hlt : k < n
    · obtain ⟨ga, oa, rfl, hca⟩ := HA.out.at (k := k) (by rw [HN.out]; exact hlt)
      obtain ⟨x, hx⟩ : ∃ x, l.getD k 0 = x := ⟨_, rfl⟩
      rw [hx] at hca
      by_cases he : El x
      · have HS := Lib.hid (els_take (by rw [HN.out]; exact hlt) HE.out (hx ▸ he))
        have KA : Hid ((!decide (El x)) = false) := by show _ = _; rw [decide_eq_true he]; rfl
        clear hx he
        go_wp2_with fail
        refine (implBad_is x false KA.out _).mono ?_
        rintro e w2 ⟨rfl, rfl⟩
        go_wp2_with fail
        go_roundw
        case rel => exact ⟨k + 1, by omega, by go_num, HS.out, by trivial⟩
        case measure => simp [intOf]; omega
      · have HF : Hid (false = v) := by show _ = _; rw [← HV.out]; exact (decide_eq_false (fun q => he (hx ▸ el_getD q (by rw [HN.out]; exact hlt)))).symm
        have KA : Hid ((!decide (El x)) = true) := by show _ = _; rw [decide_eq_false he]; rfl
        clear hx he
        go_wp2_with fail
        refine (implBad_is x true KA.out _).mono ?_
        rintro e w2 ⟨rfl, rfl⟩
        go_wp2_with fail
        go_ret
        exact ⟨_, rfl, by rw [← HF.out]; exact decide_eq_true (by omega), rfl⟩
    · obtain rfl : k = n := by omega
      have HF : Hid (true = v) := by
        show _ = _
        rw [← HV.out]
        have := HE.out
        rw [List.take_of_length_le (by rw [HN.out]; omega)] at this
        exact (decide_eq_true this).symm
      go_wp2_with fail
      go_ret
      exact ⟨_, rfl, by rw [← HF.out]; rfl, rfl⟩

theorem implContainsBad_is {a : Option Addr} {n c : Nat} {l : List Int} (hn : l.length = n) (hl : n ≤ 3000000) {w : World} (h : RowI w a l) (v : Bool) (hv : decide (Els l) = v) :
    Calls Tryd.prog 28 #[.slice a n c, .func (.func 29) #[] #[]] w (Says (.bool (!v)) w) := by
  have HN := Lib.hid hn
  have HA := Lib.hid h
  have HV := Lib.hid hv
  clear hn h hv
  go_enter Tryd.func28, Tryd.ntmps28
  go_wp2_with fail
  refine (implIndexBad_is HN.out hl HA.out v HV.out).mono ?_
  rintro e w2 ⟨i, rfl, hi, rfl⟩
  have HI := Lib.hid hi
  clear hi
  go_wp2_with fail
  go_ret
  exact ⟨ret_b HI.out, rfl⟩

theorem implSymbolsOk_is : ISymbolsOk := by
  intro a n c l m v hv hn hl hc w h
  by_cases hm : (n : Int) = m
  case neg =>
    have tm : ((n : Int) == m) = false := by simpa using hm
    obtain rfl : v = false := by rw [← hv]; exact decide_eq_false fun q => hm (by rw [← hn]; exact q.2)
    clear hv h hm hn
    go_enter Tryd.func12, Tryd.ntmps12
    go_wp2_with fail
    go_ret
    exact ⟨rfl, Below.refl _ _⟩
  have HE : Hid (decide (Els l) = v) := by
    show _ = _
    rw [← hv]
    exact decide_eq_decide.mpr ⟨fun q => ⟨q, by rw [hn]; exact hm⟩, fun q => q.1⟩
  have HN := Lib.hid hn
  have HA := Lib.hid h
  clear hv hn h
  subst hm
  have tm : ((n : Int) == (n : Int)) = true := by simp
  go_enter Tryd.func12, Tryd.ntmps12
  go_wp2_with fail
  refine (implContainsBad_is HN.out hl HA.out v HE.out).mono ?_
  rintro e w2 ⟨rfl, rfl⟩
  go_wp2_with fail
  go_ret
  exact ⟨rfl, Below.refl _ _⟩

set_option maxHeartbeats 2000000 in
set_option maxRecDepth 100000 in
theorem implEqualI_is {a b : Option Addr} {n m c d : Nat} {xs ys : List Int} (hx : xs.length = n) (hy : ys.length = m) (hl : n ≤ 3000000) (hm : m ≤ 3000000) {w : World} (ha : RowI w a xs) (hb : RowI w b ys) (v : Bool) (hv : decide (xs = ys) = v) :
    Calls Tryd.prog 27 #[.slice a n c, .slice b m d] w fun e w' => e = .returned (.bool v) ∧ ∃ q, w' = w.drewN q := by
  have HX := Lib.hid hx
  have HY := Lib.hid hy
  have HA := Lib.hid ha
  have HB := Lib.hid hb
  by_cases hnm : n = m
  case neg =>
    have tn : ((n : Int) != (m : Int)) = true := by rw [bne_iff_ne]; omega
    have HF : Hid (false = v) := by show _ = _; rw [← hv]; exact (decide_eq_false (fun e => hnm (by rw [← hx, ← hy, e]))).symm
    clear hx hy ha hb hv hnm
    go_enter Tryd.func27, Tryd.ntmps27
    go_wp2_with fail
    go_ret
    exact ⟨ret_b HF.out, 0, rfl⟩
  subst hnm
  have HV := Lib.hid hv
  have tn : ((n : Int) != (n : Int)) = false := by simp
  clear hx hy ha hb hv
  go_enter Tryd.func27, Tryd.ntmps27
  go_wp2_with fail
  go_loopw [13] (fun i wr => ∃ k q : Nat, k ≤ n ∧ i = .int .i64 k ∧ (∀ j, j < k → xs.getD j 0 = ys.getD j 0) ∧ wr = w.drewN q) (fun i _ => n - (intOf i).toNat)
  case atStart => exact ⟨0, 0, Nat.zero_le _, rfl, (fun j hj => absurd hj (Nat.not_lt_zero _)), rfl⟩
  case round =>
    obtain ⟨k, q, hk, rfl, heq, rfl⟩ := hrel
    have HE := Lib.hid heq
    clear heq
    by_cases hlt : k < n
    · obtain ⟨ga, oa, rfl, hca⟩ := HA.out.at (k := k) (by rw [HX.out]; exact hlt)
      obtain ⟨gb, ob, rfl, hcb⟩ := HB.out.at (k := k) (by rw [HY.out]; exact hlt)
      obtain ⟨x, hx⟩ : ∃ x, xs.getD k 0 = x := ⟨_, rfl⟩
      obtain ⟨y, hy⟩ : ∃ y, ys.getD k 0 = y := ⟨_, rfl⟩
      rw [hx] at hca
      rw [hy] at hcb
      by_cases hxy : x = y
      · have HS : Hid (∀ j, j < k + 1 → xs.getD j 0 = ys.getD j 0) := fun j hj => by
          by_cases e : j = k
          · subst e; rw [hx, hy, hxy]
          · exact HE.out j (by omega)
        have txy : (x != y) = false := by rw [hxy]; simp
        clear hx hy hxy
        go_wp2_with fail
        go_quiet (fail)
        go_wp2
        go_roundw
        case rel => exact ⟨k + 1, _, by omega, by go_num, HS.out, rfl⟩
        case measure => simp [intOf]; omega
      · have HF : Hid (false = v) := by show _ = _; rw [← HV.out]; exact (decide_eq_false (fun e => hxy (by rw [← hx, ← hy, e]))).symm
        have txy : (x != y) = true := by rw [bne_iff_ne]; exact hxy
        clear hx hy hxy
        go_wp2_with fail
        go_quiet (fail)
        go_wp2
        go_ret
        exact ⟨ret_b HF.out, q + nq, by first | rfl | exact World.drewN_drewN _ _ _ | simp [World.drewN_add]⟩
    · obtain rfl : k = n := by omega
      have HF : Hid (true = v) := by
        show _ = _
        rw [← HV.out]
        refine (decide_eq_true ?_).symm
        apply List.ext_getElem (by rw [HX.out, HY.out])
        intro i h1 h2
        have := HE.out i (by rw [← HX.out]; exact h1)
        rwa [List.getD_eq_getElem?_getD, List.getD_eq_getElem?_getD, List.getElem?_eq_getElem h1, List.getElem?_eq_getElem h2] at this
      go_wp2_with fail
      go_ret
      exact ⟨ret_b HF.out, _, rfl⟩

end Go.Proofs.YtgmlifhiefknbaaDoor
