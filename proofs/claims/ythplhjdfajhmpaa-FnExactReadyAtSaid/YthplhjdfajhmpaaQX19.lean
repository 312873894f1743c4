/-
  Texts of one proof, merged: RdyC, RdyJ, RdyI, RdyD, RdyG, RdyO, RdyE2, RdyE1, RdyE4.
-/
import Derived.Test.YthplhjdfajhmpaaQX6
import Derived.Test.YthplhjdfajhmpaaQX9
import Derived.Test.YthplhjdfajhmpaaQX14
import Derived.Test.YthplhjdfajhmpaaQX17
import Derived.Test.YthplhjdfajhmpaaQX18
import Derived.Maps.AppendAt
namespace Go.Proofs.Ythplhjdfajhmpaa
open Go.RowKit Go.PlainAid

set_option linter.unusedVariables false

theorem below_allocI {w : World} (o : Obj) : Below w.heap.size w (w.alloc o) := (Below.refl _ _).alloc (Nat.le_refl _) _

theorem RowI.src {w : World} {ad : Addr} {l : List Int} (h : RowI w (some ad) l) : ∀ j u, (l.map (Value.int .i64))[j]? = some u → w.cell? (ad.add j) = some u := by
  rcases h with rfl | ⟨b, off, hb, h⟩
  · intro j u hu; simp at hu
  · cases hb
    intro j u hu
    rw [List.getElem?_map] at hu
    cases hl : l[j]? with
    | none => rw [hl] at hu; cases hu
    | some z =>
      rw [hl] at hu
      cases hu
      have hj : j < l.length := by
        rcases Nat.lt_or_ge j l.length with h1 | h1
        · exact h1
        · rw [List.getElem?_eq_none h1] at hl; cases hl
      have h2 := h j hj
      rw [List.getD_eq_getElem?_getD, hl] at h2
      unfold Addr.add
      by_cases h0 : j = 0
      · subst h0
        rw [if_pos rfl]
        exact h2
      · rw [if_neg h0]
        exact h2

theorem ownI_same {B n c : Nat} {a : Option Addr} {l : List Int} {w w' : World} (h : OwnI B (.slice a n c) l w) (hk : ∀ x, a = some x → w'.heap[x.block]? = w.heap[x.block]?) : OwnI B (.slice a n c) l w' := by
  refine ⟨h.1, ?_⟩
  rcases h.2 with ⟨hv, h0⟩ | ⟨b, cap, cur, hv, hB, hh, r⟩
  · exact .inl ⟨hv, h0⟩
  · cases hv
    exact .inr ⟨b, c, cur, rfl, hB, (hk _ rfl).trans hh, r⟩

/-- Holds till operation L. -/
def TillW (L : Nat) (F : World → Prop) (listed : Array Bool) (u : World) : Prop := listed.getD L false = false → F u

theorem TillW.gone {L : Nat} {F : World → Prop} {listed : Array Bool} {u : World} (h : L < listed.size) : TillW L F (listed.setIfInBounds L true) u := fun h2 => by rw [get_set_same false h] at h2; cases h2

/-- Holds behind operation L. -/
def FromW (L : Nat) (F : World → Prop) (listed : Array Bool) (u : World) : Prop := listed.getD L false = true → F u

theorem FromW.zero (L : Nat) (F : World → Prop) (n : Nat) (u : World) : FromW L F (Array.replicate n false) u := fun h => by rw [getD_replicate_false] at h; cases h

theorem FromW.no {L i : Nat} {F : World → Prop} {listed : Array Bool} {u : World} (h : listed.getD L false = false) (hi : i ≠ L) : FromW L F (listed.setIfInBounds i true) u := fun h2 => by rw [getD_set_ne false hi, h] at h2; cases h2

/-- Operation L comes last. -/
def AllW (L : Nat) (listed : Array Bool) : Prop := ∀ j, j < L → Aft L j listed

theorem AllW.keep {L i : Nat} {listed : Array Bool} (h : AllW L listed) (hi : i ≠ L) : AllW L (listed.setIfInBounds i true) := fun j hj => (h j hj).keep hi

/-- The rows that operations i and j answered lie apart, till operation m. -/
def AptR (i j m n1 n2 : Nat) (listed : Array Bool) (x : Nat → Value) : Prop := listed.getD j false = true → listed.getD m false = false → ∃ aa ca ab cb, x i = .slice aa n1 ca ∧ x j = .slice ab n2 cb ∧ Apt aa ab

theorem AptR.zero (i j m n1 n2 n : Nat) (x : Nat → Value) : AptR i j m n1 n2 (Array.replicate n false) x := fun h => by rw [getD_replicate_false] at h; cases h

theorem AptR.keep {i j m n1 n2 : Nat} {listed : Array Bool} {x : Nat → Value} (h : AptR i j m n1 n2 listed x) {k : Nat} (hi : k ≠ i) (hj : k ≠ j) (hm : k ≠ m) (v : Value) : AptR i j m n1 n2 (listed.setIfInBounds k true) (upd x k v) := fun h1 h2 => by
  rw [getD_set_ne false hj] at h1
  rw [getD_set_ne false hm] at h2
  rw [upd_other _ _ (Ne.symm hi), upd_other _ _ (Ne.symm hj)]
  exact h h1 h2

theorem AptR.no {i j m n1 n2 : Nat} {listed : Array Bool} {x : Nat → Value} (h : listed.getD j false = false) {k : Nat} (hj : k ≠ j) (v : Value) : AptR i j m n1 n2 (listed.setIfInBounds k true) (upd x k v) := fun h1 _ => by
  rw [getD_set_ne false hj, h] at h1; cases h1

theorem AptR.new {i j m n1 n2 : Nat} {listed : Array Bool} {x : Nat → Value} {ab : Option Addr} {cb : Nat} (hij : i ≠ j) (h : ∃ aa ca, x i = .slice aa n1 ca ∧ Apt aa ab) : AptR i j m n1 n2 (listed.setIfInBounds j true) (upd x j (.slice ab n2 cb)) := fun _ _ => by
  obtain ⟨aa, ca, e1, e2⟩ := h
  exact ⟨aa, ca, ab, cb, by rw [upd_other _ _ hij]; exact e1, upd_same _ _ _, e2⟩

theorem AptR.call {i j m n1 n2 : Nat} {listed : Array Bool} {x : Nat → Value} (h : m < listed.size) : AptR i j m n1 n2 (listed.setIfInBounds m true) x := fun _ h2 => by rw [get_set_same false h] at h2; cases h2

/-- Numbers appended to a row of the call's own; where the new row lies. -/
theorem append_int {ops : Array Oper} {rest : List Oper} {o : Oper} {a : Act} {w : World} {Q : Exit → Act → World → Prop} (hgd : o.guard = none) (s x : Operand) (ho : o.op = .call { callee := .builtin .append, args := #[s, x], argTypes := #[31, 31] })
    (base : Nat) (v : Value) (n : Nat) (xs : List Int) (hs : a.eval s = v) (hown : OwnI base v xs w) (hxn : xs.length = n) (ad : Option Addr) (m c : Nat) (news : List Int) (hx : a.eval x = .slice ad m c) (hl : news.length = m) (hnc : ad = none → c = 0) (hrow : RowI w ad news) (hbig : n + m ≤ 3500000) (hbase : base ≤ w.heap.size)
    (h : ∀ v' w', OwnI base v' (xs ++ news) w' → w.grownBy w' v.ownBlock → (v'.ownBlock = v.ownBlock ∨ v'.ownBlock = some w.heap.size) → wpList Try.prog ops Q rest (a.put o.dst v') w') : wpList Try.prog ops Q (o :: rest) a w := by
  obtain ⟨i0, hi, hz0, hz1, hz2⟩ := info_parts infoI
  have hown' : w.ownsRow base 3 1 v n (xs.map (Value.int .i64)) := by
    have h2 := hown
    unfold OwnI at h2
    rw [hxn] at h2
    exact h2
  cases ad with
  | none =>
    obtain rfl : c = 0 := hnc rfl
    have hn0 : news = [] := by
      rcases hrow with h2 | ⟨_, _, h2, _⟩
      · exact h2
      · cases h2
    subst hn0
    obtain rfl : m = 0 := hl.symm
    refine wpList_append_own_none hgd s x 31 ho base 3 i0 1 Try.underlying31 hi v n _ hs hown' hx (h v w ?_ ⟨rfl, rfl, rfl, Nat.le_refl _, fun _ _ _ => rfl⟩ (.inl rfl))
    rw [List.append_nil]
    exact hown
  | some ad =>
    have hfl : (news.map (Value.int .i64)).length = m * 1 := by rw [List.length_map, hl, Nat.mul_one]
    refine wpList_append_own_at _ hgd s x 31 ho base 3 i0 (.int .i64 0) 1 8 Try.underlying31 hi hz0 hz1 hz2 rfl (by decide) v n _ hs hown' ad m c (news.map (Value.int .i64)) hx hfl (RowI.src hrow) (fun u hu => by obtain ⟨z, _, rfl⟩ := List.mem_map.1 hu; rfl) (by unfold maxLen; omega) (by omega) hbase ?_
    intro v' w' ho2 hg _ hat
    refine h v' w' ?_ hg hat
    unfold OwnI
    rw [List.length_append, hxn, hl, List.map_append]
    exact ho2

set_option maxHeartbeats 16000000 in
set_option maxRecDepth 100000 in
theorem specCopyR_is (a1 : Option Addr) (n1 c1 : Nat) (la : List Int) (a2 : Option Addr) (n2 c2 : Nat) (ac : List Int) (hl1 : la.length = n1) (h1 : n1 ≤ 3000000) (hl2 : ac.length = n2) (h2 : n2 ≤ 3000000) (hnc1 : a1 = none → c1 = 0) (hnc2 : a2 = none → c2 = 0) (w : World) (hr1 : RowI w a1 la) (hr2 : RowI w a2 ac) :
    Calls Try.prog 69 #[.agg #[.slice a1 n1 c1, .slice a2 n2 c2]] w (GivesRd n1 n2 la ac w) := by
  obtain ⟨w1, hw1⟩ : ∃ u, (w.alloc (.cells #[.slice a1 n1 c1, .slice a2 n2 c2] 33)).alloc (.cells #[.slice none 0 0, .slice none 0 0] 33) = u := ⟨_, rfl⟩
  have HB1 : Hid (Below w.heap.size w w1) := by subst hw1; exact ((Below.refl _ _).alloc (Nat.le_refl _) _).alloc (by simp) _
  have g1 : w1.heap[w.heap.size]? = some (.cells #[.slice a1 n1 c1, .slice a2 n2 c2] 33) := by subst hw1; exact heap_alloc2_old _ _ _
  have p1 : w1.heap[w.heap.size + 1]? = some (.cells #[.slice none 0 0, .slice none 0 0] 33) := by subst hw1; exact heap_alloc2_new _ _ _
  have HS1 : Hid (w.heap.size + 1 < w1.heap.size) := lt_of_block p1
  have HR1 := Lib.hid (hr1.below HB1.out)
  have HR2 := Lib.hid (hr2.below HB1.out)
  have HL1 := Lib.hid hl1
  have HL2 := Lib.hid hl2
  have HNC1 := Lib.hid hnc1
  have HNC2 := Lib.hid hnc2
  clear hr1 hr2 hl1 hl2 hnc1 hnc2
  go_enter Try.func69, Try.ntmps69
  go_wp2_with fail
  refine wp_region_flowG (fun k => match k with | 1 => some (.pointer (some ⟨w.heap.size, 0, none⟩)) | 2 => some (.slice a1 n1 c1) | 5 => some (.pointer (some ⟨w.heap.size, 1, none⟩)) | 6 => some (.slice a2 n2 c2) | _ => none) (fun listed x u => TillW 9 (fun u => Below w1.heap.size w1 u) listed u ∧ AllW 9 listed ∧ FromW 9 (fun u => ∃ aa ca ab cb, u.heap[w.heap.size + 1]? = some (.cells #[.slice aa n1 ca, .slice ab n2 cb] 33) ∧ OwnI w1.heap.size (.slice aa n1 ca) la u ∧ OwnI w1.heap.size (.slice ab n2 cb) ac u ∧ Apt aa ab ∧ Below w.heap.size w u) listed u ∧ FactW 0 3 (fun q u => ∃ bn, q = .slice (some ⟨bn, 0, none⟩) 0 0 ∧ OwnI w1.heap.size (.slice (some ⟨bn, 0, none⟩) 0 0) [] u) listed x u ∧ FactW 3 8 (fun q u => ∃ ab cb, q = .slice ab n1 cb ∧ OwnI w1.heap.size (.slice ab n1 cb) (la) u) listed x u ∧ FactW 4 7 (fun q u => ∃ bn, q = .slice (some ⟨bn, 0, none⟩) 0 0 ∧ OwnI w1.heap.size (.slice (some ⟨bn, 0, none⟩) 0 0) [] u) listed x u ∧ FactW 7 8 (fun q u => ∃ ab cb, q = .slice ab n2 cb ∧ OwnI w1.heap.size (.slice ab n2 cb) (ac) u) listed x u ∧ FactW 8 9 (fun q u => ∃ aa ca ab cb, q = .agg #[.slice aa n1 ca, .slice ab n2 cb] ∧ OwnI w1.heap.size (.slice aa n1 ca) la u ∧ OwnI w1.heap.size (.slice ab n2 cb) ac u ∧ Apt aa ab) listed x u ∧ AptR 3 7 9 n1 n2 listed x ∧ Aft 7 3 listed ∧ Aft 3 0 listed ∧ Aft 7 4 listed ∧ Aft 8 7 listed ∧ Apart 0 4 3 listed x ∧ Apart 3 4 7 listed x) (fun _ => undef) (by kernel_rfl) (by kernel_rfl) ?hx ?hS ?hs ?he
  case hx => simp only [putsX, Act.put, List.setIfInBounds_toArray, List.set_cons_zero, List.set_cons_succ]
  case hS => exact ⟨fun _ => ⟨rfl, rfl, rfl, Nat.le_refl _, fun _ _ => rfl⟩, fun j _ => Aft.zero _ _ _, FromW.zero _ _ _ _, FactW.zero _ _ _ _ _ _, FactW.zero _ _ _ _ _ _, FactW.zero _ _ _ _ _ _, FactW.zero _ _ _ _ _ _, FactW.zero _ _ _ _ _ _, AptR.zero _ _ _ _ _ _ _, Aft.zero _ _ _, Aft.zero _ _ _, Aft.zero _ _ _, Aft.zero _ _ _, Apart.zero _ _ _ _ _, Apart.zero _ _ _ _ _⟩
  case hs =>
    simp only [flowSteps]
    refine ⟨?s_0, ?s_1, ?s_2, ?s_3, ?s_4, ?s_5, ?s_6, ?s_7, ?s_8, ?s_9, trivial⟩
    case s_0 =>
      intro listed bb u hsz hn hwt hinv
      obtain ⟨x, rfl, hU, hC9, hA9, hFin, h0, h3, h4, h7, h8, hAp, hA73, hA30, h74, h87, h04, h34⟩ := hinv
      have n9 : listed.getD 9 false = false := (hA9 0 (by decide)).no hn
      have hC := hC9 n9
      simp only [putsX, Act.put, List.setIfInBounds_toArray, List.set_cons_zero, List.set_cons_succ]
      have N3 : listed.getD 3 false = false := hA30.no hn
      have N7 : listed.getD 7 false = false := hA73.no N3
      have NEW : listed.getD 4 false = true → ∀ (b : Addr) (n' c' : Nat), x 4 = .slice (some b) n' c' → u.heap.size ≠ b.block := fun h4l b n' c' hx => by
        obtain ⟨bn, e1, e2⟩ := h4 h4l N7
        rw [e1] at hx
        cases hx
        have := (e2.lo _ rfl).2
        show u.heap.size ≠ bn
        simp at this
        omega
      go_wp2_with fail
      refine stepQ_normal ⟨trivial, upd x 0 (.slice (some ⟨u.heap.size, 0, none⟩) 0 0), ?_, hU.step (fun _ h => by cases h), (fun _ => hC.alloc hC.size _), hA9.keep (by decide), FromW.no n9 (by decide), FactW.new ⟨_, rfl, World.ownsRow_made (base := w1.heap.size) (e := 3) (size := 1) u #[] 0 hC.size (by decide) rfl⟩, h3.keep (by decide) (by decide) _ (fun ⟨b1, b2, b3, b4⟩ => ⟨b1, b2, b3, b4.below (below_allocI _)⟩), h4.keep (by decide) (by decide) _ (fun ⟨b1, b2, b3⟩ => ⟨b1, b2, b3.below (below_allocI _)⟩), h7.keep (by decide) (by decide) _ (fun ⟨b1, b2, b3, b4⟩ => ⟨b1, b2, b3, b4.below (below_allocI _)⟩), h8.keep (by decide) (by decide) _ (fun ⟨b1, b2, b3, b4, b5, b6, b7, b8⟩ => ⟨b1, b2, b3, b4, b5, b6.below (below_allocI _), b7.below (below_allocI _), b8⟩), hAp.keep (by decide) (by decide) (by decide) _, hA73.keep (by decide), hA30.keep (by decide), h74.keep (by decide), h87.keep (by decide), Apart.newi (by decide) (by decide) (fun h4l _ a' b' n' m' c' d' e1 e2 => by cases e1; exact NEW h4l b' m' d' e2), h34.keep (by decide) (by decide) (by decide) _⟩
      simp only [upd]
      rfl
    case s_1 =>
      intro listed bb u hsz hn hwt hinv
      obtain ⟨x, rfl, hU, hC9, hA9, hFin, h0, h3, h4, h7, h8, hAp, hA73, hA30, h74, h87, h04, h34⟩ := hinv
      have n9 : listed.getD 9 false = false := (hA9 1 (by decide)).no hn
      have hC := hC9 n9
      simp only [putsX, Act.put, List.setIfInBounds_toArray, List.set_cons_zero, List.set_cons_succ]
      go_wp2_with fail
      refine stepQ_normal ⟨trivial, upd x 1 (.pointer (some ⟨w.heap.size, 0, none⟩)), ?_, hU.step (fun _ h => Option.some.inj h), (fun _ => hC), hA9.keep (by decide), FromW.no n9 (by decide), h0.keep (by decide) (by decide) _ id, h3.keep (by decide) (by decide) _ id, h4.keep (by decide) (by decide) _ id, h7.keep (by decide) (by decide) _ id, h8.keep (by decide) (by decide) _ id, hAp.keep (by decide) (by decide) (by decide) _, hA73.keep (by decide), hA30.keep (by decide), h74.keep (by decide), h87.keep (by decide), h04.keep (by decide) (by decide) (by decide) _, h34.keep (by decide) (by decide) (by decide) _⟩
      simp only [upd]
      rfl
    case s_2 =>
      intro listed bb u hsz hn hwt hinv
      obtain ⟨x, rfl, hU, hC9, hA9, hFin, h0, h3, h4, h7, h8, hAp, hA73, hA30, h74, h87, h04, h34⟩ := hinv
      have n9 : listed.getD 9 false = false := (hA9 2 (by decide)).no hn
      have hC := hC9 n9
      have f1 := Lib.hid (hU 1 _ rfl (hwt 1 (by kernel_rfl)))
      simp only [putsX, Act.put, List.setIfInBounds_toArray, List.set_cons_zero, List.set_cons_succ]
      rw [f1.out]
      obtain ⟨d0, d1⟩ := cells2 (keep_block hC g1 (lt_of_block g1))
      go_wp2_with fail
      refine stepQ_normal ⟨trivial, upd x 2 (.slice a1 n1 c1), ?_, hU.step (fun _ h => Option.some.inj h), (fun _ => hC), hA9.keep (by decide), FromW.no n9 (by decide), h0.keep (by decide) (by decide) _ id, h3.keep (by decide) (by decide) _ id, h4.keep (by decide) (by decide) _ id, h7.keep (by decide) (by decide) _ id, h8.keep (by decide) (by decide) _ id, hAp.keep (by decide) (by decide) (by decide) _, hA73.keep (by decide), hA30.keep (by decide), h74.keep (by decide), h87.keep (by decide), h04.keep (by decide) (by decide) (by decide) _, h34.keep (by decide) (by decide) (by decide) _⟩
      simp only [upd]
      simp only [f1.out]
      (try rfl)
    case s_3 =>
      intro listed bb u hsz hn hwt hinv
      obtain ⟨x, rfl, hU, hC9, hA9, hFin, h0, h3, h4, h7, h8, hAp, hA73, hA30, h74, h87, h04, h34⟩ := hinv
      have n9 : listed.getD 9 false = false := (hA9 3 (by decide)).no hn
      have hC := hC9 n9
      have f2 := Lib.hid (hU 2 _ rfl (hwt 2 (by kernel_rfl)))
      simp only [putsX, Act.put, List.setIfInBounds_toArray, List.set_cons_zero, List.set_cons_succ]
      rw [f2.out]
      obtain ⟨b2, fp, hown⟩ := h0 (hwt 0 (by kernel_rfl)) hn
      have FP := Lib.hid fp
      rw [FP.out]
      have hCs := hC.size
      have HLO := Lib.hid (hown.lo _ rfl)
      clear fp
      go_wp2_with (at_builtin; refine append_int rfl _ _ rfl w1.heap.size _ 0 [] rfl hown rfl a1 n1 c1 (la) rfl HL1.out HNC1.out ((HR1.out).below hC) (by omega) hCs ?_)
      intro v' u' O2 hgrow hat
      try rw [List.nil_append] at O2
      obtain ⟨ad, cd, hv'⟩ := O2.shape
      rw [HL1.out] at hv'
      subst hv'
      have hC' := hC.grown hgrow hCs (fun j hj => by have := Option.some.inj hj; have h : w1.heap.size ≤ b2 := HLO.out.1; have h2 : b2 = j := this; omega)
      have HAT : Hid (∀ y, ad = some y → y.block = b2 ∨ y.block = u.heap.size) := fun y hy => by
        subst hy
        rcases hat with h | h
        · exact .inl (Option.some.inj h)
        · exact .inr (Option.some.inj h)
      clear hat
      have N7 : listed.getD 7 false = false := hA73.no hn
      have K4 : listed.getD 4 false = true → (∃ bn, x 4 = .slice (some ⟨bn, 0, none⟩) 0 0 ∧ OwnI w1.heap.size (.slice (some ⟨bn, 0, none⟩) 0 0) [] u) → ∃ bn, x 4 = .slice (some ⟨bn, 0, none⟩) 0 0 ∧ OwnI w1.heap.size (.slice (some ⟨bn, 0, none⟩) 0 0) [] u' := fun h4l ⟨bn, e1, e2⟩ =>
        ⟨bn, e1, ownI_same e2 (fun y hy => hgrow.block y.block (e2.lo y hy).2 (fun e => h04 (hwt 0 (by kernel_rfl)) h4l hn ⟨b2, 0, none⟩ ⟨bn, 0, none⟩ 0 0 0 0 FP.out e1 (by cases hy; exact (Option.some.inj e).symm)))⟩
      have A34 : listed.getD 4 false = true → ∀ (a b : Addr) (n n' c c' : Nat), Value.slice ad n1 cd = .slice (some a) n c → x 4 = .slice (some b) n' c' → a.block ≠ b.block := fun h4l a b n n' c c' e1 e2 => by
        obtain ⟨bn, e3, e4⟩ := h4 h4l N7
        have e5 : ad = some a := by cases e1; rfl
        rw [e3] at e2
        cases e2
        have h1 := (e4.lo _ rfl).2
        have h2 := h04 (hwt 0 (by kernel_rfl)) h4l hn ⟨b2, 0, none⟩ ⟨bn, 0, none⟩ 0 0 0 0 FP.out e3
        rcases HAT.out a e5 with h | h
        · rw [h]; exact h2
        · rw [h]; show u.heap.size ≠ bn; simp at h1; omega
      clear hown
      go_wp2_with fail
      refine stepQ_normal ⟨trivial, upd x 3 (.slice ad n1 cd), ?_, hU.step (fun _ h => by cases h), (fun _ => hC'), hA9.keep (by decide), FromW.no n9 (by decide), FactW.call (by rw [hsz]; decide), FactW.new ⟨ad, cd, rfl, O2⟩, h4.keepL (by decide) (by decide) _ K4, FactW.no N7 (by decide) _, FactW.no (h87.no N7) (by decide) _, AptR.no N7 (by decide) _, hA73.keep (by decide), Aft.new (hwt 0 (by kernel_rfl)), h74.keep (by decide), h87.keep (by decide), Apart.call (by rw [hsz]; decide), Apart.newi (by decide) (by decide) (fun h4l _ => A34 h4l)⟩
      simp only [upd]
      simp only [f2.out, FP.out]
      (try rfl)
    case s_4 =>
      intro listed bb u hsz hn hwt hinv
      obtain ⟨x, rfl, hU, hC9, hA9, hFin, h0, h3, h4, h7, h8, hAp, hA73, hA30, h74, h87, h04, h34⟩ := hinv
      have n9 : listed.getD 9 false = false := (hA9 4 (by decide)).no hn
      have hC := hC9 n9
      simp only [putsX, Act.put, List.setIfInBounds_toArray, List.set_cons_zero, List.set_cons_succ]
      have N7 : listed.getD 7 false = false := h74.no hn
      have NEW : listed.getD 0 false = true → listed.getD 3 false = false → ∀ (b : Addr) (n' c' : Nat), x 0 = .slice (some b) n' c' → b.block ≠ u.heap.size := fun h2l h6l b n' c' hx => by
        obtain ⟨bn, e1, e2⟩ := h0 h2l h6l
        rw [e1] at hx
        cases hx
        have h : bn < u.heap.size := (e2.lo _ rfl).2
        show bn ≠ u.heap.size
        omega
      have NEW3 : listed.getD 3 false = true → ∀ (b : Addr) (n' c' : Nat), x 3 = .slice (some b) n' c' → b.block ≠ u.heap.size := fun h3l b n' c' hx => by
        obtain ⟨ab, cb, e1, e2⟩ := h3 h3l (h87.no N7)
        rw [e1] at hx
        cases hx
        have h := (e2.lo _ rfl).2
        omega
      go_wp2_with fail
      refine stepQ_normal ⟨trivial, upd x 4 (.slice (some ⟨u.heap.size, 0, none⟩) 0 0), ?_, hU.step (fun _ h => by cases h), (fun _ => hC.alloc hC.size _), hA9.keep (by decide), FromW.no n9 (by decide), h0.keep (by decide) (by decide) _ (fun ⟨b1, b2, b3⟩ => ⟨b1, b2, b3.below (below_allocI _)⟩), h3.keep (by decide) (by decide) _ (fun ⟨b1, b2, b3, b4⟩ => ⟨b1, b2, b3, b4.below (below_allocI _)⟩), FactW.new ⟨_, rfl, World.ownsRow_made (base := w1.heap.size) (e := 3) (size := 1) u #[] 0 hC.size (by decide) rfl⟩, h7.keep (by decide) (by decide) _ (fun ⟨b1, b2, b3, b4⟩ => ⟨b1, b2, b3, b4.below (below_allocI _)⟩), h8.keep (by decide) (by decide) _ (fun ⟨b1, b2, b3, b4, b5, b6, b7, b8⟩ => ⟨b1, b2, b3, b4, b5, b6.below (below_allocI _), b7.below (below_allocI _), b8⟩), hAp.keep (by decide) (by decide) (by decide) _, hA73.keep (by decide), hA30.keep (by decide), h74.keep (by decide), h87.keep (by decide), Apart.newj (by decide) (by decide) (fun h2l h6l a' b' n' m' c' d' e1 e2 => by cases e2; exact NEW h2l h6l a' n' c' e1), Apart.newj (by decide) (by decide) (fun h3l _ a' b' n' m' c' d' e1 e2 => by cases e2; exact NEW3 h3l a' n' c' e1)⟩
      simp only [upd]
      rfl
    case s_5 =>
      intro listed bb u hsz hn hwt hinv
      obtain ⟨x, rfl, hU, hC9, hA9, hFin, h0, h3, h4, h7, h8, hAp, hA73, hA30, h74, h87, h04, h34⟩ := hinv
      have n9 : listed.getD 9 false = false := (hA9 5 (by decide)).no hn
      have hC := hC9 n9
      simp only [putsX, Act.put, List.setIfInBounds_toArray, List.set_cons_zero, List.set_cons_succ]
      go_wp2_with fail
      refine stepQ_normal ⟨trivial, upd x 5 (.pointer (some ⟨w.heap.size, 1, none⟩)), ?_, hU.step (fun _ h => Option.some.inj h), (fun _ => hC), hA9.keep (by decide), FromW.no n9 (by decide), h0.keep (by decide) (by decide) _ id, h3.keep (by decide) (by decide) _ id, h4.keep (by decide) (by decide) _ id, h7.keep (by decide) (by decide) _ id, h8.keep (by decide) (by decide) _ id, hAp.keep (by decide) (by decide) (by decide) _, hA73.keep (by decide), hA30.keep (by decide), h74.keep (by decide), h87.keep (by decide), h04.keep (by decide) (by decide) (by decide) _, h34.keep (by decide) (by decide) (by decide) _⟩
      simp only [upd]
      rfl
    case s_6 =>
      intro listed bb u hsz hn hwt hinv
      obtain ⟨x, rfl, hU, hC9, hA9, hFin, h0, h3, h4, h7, h8, hAp, hA73, hA30, h74, h87, h04, h34⟩ := hinv
      have n9 : listed.getD 9 false = false := (hA9 6 (by decide)).no hn
      have hC := hC9 n9
      have f5 := Lib.hid (hU 5 _ rfl (hwt 5 (by kernel_rfl)))
      simp only [putsX, Act.put, List.setIfInBounds_toArray, List.set_cons_zero, List.set_cons_succ]
      rw [f5.out]
      obtain ⟨d0, d1⟩ := cells2 (keep_block hC g1 (lt_of_block g1))
      go_wp2_with fail
      refine stepQ_normal ⟨trivial, upd x 6 (.slice a2 n2 c2), ?_, hU.step (fun _ h => Option.some.inj h), (fun _ => hC), hA9.keep (by decide), FromW.no n9 (by decide), h0.keep (by decide) (by decide) _ id, h3.keep (by decide) (by decide) _ id, h4.keep (by decide) (by decide) _ id, h7.keep (by decide) (by decide) _ id, h8.keep (by decide) (by decide) _ id, hAp.keep (by decide) (by decide) (by decide) _, hA73.keep (by decide), hA30.keep (by decide), h74.keep (by decide), h87.keep (by decide), h04.keep (by decide) (by decide) (by decide) _, h34.keep (by decide) (by decide) (by decide) _⟩
      simp only [upd]
      simp only [f5.out]
      (try rfl)
    case s_7 =>
      intro listed bb u hsz hn hwt hinv
      obtain ⟨x, rfl, hU, hC9, hA9, hFin, h0, h3, h4, h7, h8, hAp, hA73, hA30, h74, h87, h04, h34⟩ := hinv
      have n9 : listed.getD 9 false = false := (hA9 7 (by decide)).no hn
      have hC := hC9 n9
      have f6 := Lib.hid (hU 6 _ rfl (hwt 6 (by kernel_rfl)))
      simp only [putsX, Act.put, List.setIfInBounds_toArray, List.set_cons_zero, List.set_cons_succ]
      rw [f6.out]
      obtain ⟨b2, fp, hown⟩ := h4 (hwt 4 (by kernel_rfl)) hn
      have FP := Lib.hid fp
      rw [FP.out]
      have hCs := hC.size
      have HLO := Lib.hid (hown.lo _ rfl)
      clear fp
      go_wp2_with (at_builtin; refine append_int rfl _ _ rfl w1.heap.size _ 0 [] rfl hown rfl a2 n2 c2 (ac) rfl HL2.out HNC2.out ((HR2.out).below hC) (by omega) hCs ?_)
      intro v' u' O2 hgrow hat
      try rw [List.nil_append] at O2
      obtain ⟨ad, cd, hv'⟩ := O2.shape
      rw [HL2.out] at hv'
      subst hv'
      have hC' := hC.grown hgrow hCs (fun j hj => by have := Option.some.inj hj; have h : w1.heap.size ≤ b2 := HLO.out.1; have h2 : b2 = j := this; omega)
      have HAT : Hid (∀ y, ad = some y → y.block = b2 ∨ y.block = u.heap.size) := fun y hy => by
        subst hy
        rcases hat with h | h
        · exact .inl (Option.some.inj h)
        · exact .inr (Option.some.inj h)
      clear hat
      have L3 : listed.getD 3 false = true := hwt 3 (by kernel_rfl)
      have N8 : listed.getD 8 false = false := h87.no hn
      have K3 : (∃ ab cb, x 3 = .slice ab n1 cb ∧ OwnI w1.heap.size (.slice ab n1 cb) la u) → ∃ ab cb, x 3 = .slice ab n1 cb ∧ OwnI w1.heap.size (.slice ab n1 cb) la u' := fun ⟨ab, cb, e1, e2⟩ =>
        ⟨ab, cb, e1, ownI_same e2 (fun y hy => hgrow.block y.block (e2.lo y hy).2 (fun e => h34 L3 (hwt 4 (by kernel_rfl)) hn y ⟨b2, 0, none⟩ n1 0 cb 0 (by rw [e1, hy]) FP.out (Option.some.inj e)))⟩
      have AP : ∃ aa ca, x 3 = .slice aa n1 ca ∧ Apt aa ad := by
        obtain ⟨ab, cb, e1, e2⟩ := h3 L3 N8
        refine ⟨ab, cb, e1, fun y z hy hz => ?_⟩
        have h2 := h34 L3 (hwt 4 (by kernel_rfl)) hn y ⟨b2, 0, none⟩ n1 0 cb 0 (by rw [e1, hy]) FP.out
        rcases HAT.out z hz with h | h
        · rw [h]; exact h2
        · rw [h]; have := (e2.lo y hy).2; omega
      clear hown
      go_wp2_with fail
      refine stepQ_normal ⟨trivial, upd x 7 (.slice ad n2 cd), ?_, hU.step (fun _ h => by cases h), (fun _ => hC'), hA9.keep (by decide), FromW.no n9 (by decide), FactW.gone L3, h3.keep (by decide) (by decide) _ K3, FactW.call (by rw [hsz]; decide), FactW.new ⟨ad, cd, rfl, O2⟩, FactW.no N8 (by decide) _, AptR.new (by decide) AP, Aft.new L3, hA30.keep (by decide), Aft.new (hwt 4 (by kernel_rfl)), h87.keep (by decide), Apart.gone L3, Apart.call (by rw [hsz]; decide)⟩
      simp only [upd]
      simp only [f6.out, FP.out]
      (try rfl)
    case s_8 =>
      intro listed bb u hsz hn hwt hinv
      obtain ⟨x, rfl, hU, hC9, hA9, hFin, h0, h3, h4, h7, h8, hAp, hA73, hA30, h74, h87, h04, h34⟩ := hinv
      have n9 : listed.getD 9 false = false := (hA9 8 (by decide)).no hn
      have hC := hC9 n9
      simp only [putsX, Act.put, List.setIfInBounds_toArray, List.set_cons_zero, List.set_cons_succ]
      have L7 : listed.getD 7 false = true := hwt 7 (by kernel_rfl)
      obtain ⟨aa, ca, ab, cb, e3, e7, ap⟩ := hAp L7 n9
      obtain ⟨a', c', e3', o3⟩ := h3 (hwt 3 (by kernel_rfl)) hn
      obtain ⟨b', d', e7', o7⟩ := h7 L7 hn
      rw [e3] at e3'
      cases e3'
      rw [e7] at e7'
      cases e7'
      have E3 := Lib.hid e3
      have E7 := Lib.hid e7
      have AP := Lib.hid ap
      rw [E3.out, E7.out]
      clear e3 e7 ap
      go_wp2_with fail
      refine stepQ_normal ⟨trivial, upd x 8 (.agg #[.slice aa n1 ca, .slice ab n2 cb]), ?_, hU.step (fun _ h => by cases h), (fun _ => hC), hA9.keep (by decide), FromW.no n9 (by decide), h0.keep (by decide) (by decide) _ id, FactW.call (by rw [hsz]; decide), h4.keep (by decide) (by decide) _ id, FactW.call (by rw [hsz]; decide), FactW.new ⟨aa, ca, ab, cb, rfl, o3, o7, AP.out⟩, hAp.keep (by decide) (by decide) (by decide) _, hA73.keep (by decide), hA30.keep (by decide), h74.keep (by decide), Aft.new L7, h04.keep (by decide) (by decide) (by decide) _, h34.keep (by decide) (by decide) (by decide) _⟩
      simp only [upd]
      simp only [E3.out, E7.out]
      (try rfl)
    case s_9 =>
      intro listed bb u hsz hn hwt hinv
      obtain ⟨x, rfl, hU, hC9, hA9, hFin, h0, h3, h4, h7, h8, hAp, hA73, hA30, h74, h87, h04, h34⟩ := hinv
      have n9 : listed.getD 9 false = false := hn
      have hC := hC9 n9
      simp only [putsX, Act.put, List.setIfInBounds_toArray, List.set_cons_zero, List.set_cons_succ]
      obtain ⟨aa, ca, ab, cb, fp, o3, o7, ap⟩ := h8 (hwt 8 (by kernel_rfl)) hn
      have FP := Lib.hid fp
      rw [FP.out]
      have pp := keep_block hC p1 (lt_of_block p1)
      obtain ⟨x0, x1⟩ := cells2 pp
      have k0 := thawed pp 0
      have k1 := thawed pp 1
      have hCs := hC.size
      have HFIN : Hid (∃ aa' ca' ab' cb', ((u.setCell ⟨w.heap.size + 1, 0, none⟩ (.slice aa n1 ca)).setCell ⟨w.heap.size + 1, 1, none⟩ (.slice ab n2 cb)).heap[w.heap.size + 1]? = some (.cells #[.slice aa' n1 ca', .slice ab' n2 cb'] 33) ∧ OwnI w1.heap.size (.slice aa' n1 ca') la ((u.setCell ⟨w.heap.size + 1, 0, none⟩ (.slice aa n1 ca)).setCell ⟨w.heap.size + 1, 1, none⟩ (.slice ab n2 cb)) ∧ OwnI w1.heap.size (.slice ab' n2 cb') ac ((u.setCell ⟨w.heap.size + 1, 0, none⟩ (.slice aa n1 ca)).setCell ⟨w.heap.size + 1, 1, none⟩ (.slice ab n2 cb)) ∧ Apt aa' ab' ∧ Below w.heap.size w ((u.setCell ⟨w.heap.size + 1, 0, none⟩ (.slice aa n1 ca)).setCell ⟨w.heap.size + 1, 1, none⟩ (.slice ab n2 cb))) :=
        ⟨aa, ca, ab, cb, set_cells (set_cells pp 0 _) 1 _, ownI_set HS1.out (ownI_set HS1.out o3 _) _, ownI_set HS1.out (ownI_set HS1.out o7 _) _, ap, ((HB1.out.trans (hC.mono HB1.out.size)).setCell (by simp) _).setCell (by simp) _⟩
      clear pp ap o3 o7 fp
      go_wp2_with fail
      refine stepQ_normal ⟨trivial, upd x 9 undef, ?_, hU.step (fun _ h => by cases h), TillW.gone (by rw [hsz]; decide), (fun j hj => match j, hj with | 0, _ => Aft.new (hwt 0 (by kernel_rfl)) | 1, _ => Aft.new (hwt 1 (by kernel_rfl)) | 2, _ => Aft.new (hwt 2 (by kernel_rfl)) | 3, _ => Aft.new (hwt 3 (by kernel_rfl)) | 4, _ => Aft.new (hwt 4 (by kernel_rfl)) | 5, _ => Aft.new (hwt 5 (by kernel_rfl)) | 6, _ => Aft.new (hwt 6 (by kernel_rfl)) | 7, _ => Aft.new (hwt 7 (by kernel_rfl)) | 8, _ => Aft.new (hwt 8 (by kernel_rfl)) | j + 9, hj => absurd hj (by omega)), (fun _ => HFIN.out), FactW.gone (hwt 3 (by kernel_rfl)), FactW.gone (hwt 8 (by kernel_rfl)), FactW.gone (hwt 7 (by kernel_rfl)), FactW.gone (hwt 8 (by kernel_rfl)), FactW.call (by rw [hsz]; decide), AptR.call (by rw [hsz]; decide), hA73.keep (by decide), hA30.keep (by decide), h74.keep (by decide), h87.keep (by decide), Apart.gone (hwt 3 (by kernel_rfl)), Apart.gone (hwt 7 (by kernel_rfl))⟩
      simp only [upd]
      simp only [FP.out]
      (try rfl)
  case he =>
    intro listed x u hall hU hS
    obtain ⟨aa, ca, ab, cb, pf, o1, o2, ap, hb⟩ := hS.2.2.1 (hall 9 (by decide))
    obtain ⟨x0, x1⟩ := cells2 pf
    simp only [putsX, Act.put, List.setIfInBounds_toArray, List.set_cons_zero, List.set_cons_succ]
    go_wp2_with fail
    (try simp only [Exit.inBlock, Exit.then])
    refine bodyPost_ret (v := .agg #[.slice aa n1 ca, .slice ab n2 cb]) (by simp [results, Try.results69, go_sem, x0, x1]) rfl ⟨aa, ca, ab, cb, rfl, o1.mono (by have := HS1.out; omega), o2.mono (by have := HS1.out; omega), ap, hb⟩

end Go.Proofs.Ythplhjdfajhmpaa

namespace Go.Proofs.Ythplhjdfajhmpaa
open Go.RowKit Go.PlainAid

set_option linter.unusedVariables false

/-- A row of numbers in a block of the call's own. -/
def OwnJ (B : Nat) (v : Value) (l : List Int) (w : World) : Prop :=
  ∃ a n c, v = .slice a n c ∧ l.length = n ∧ ((a = none ∧ n = 0 ∧ c = 0) ∨ ∃ g off cur, a = some ⟨g, off, none⟩ ∧ B ≤ g ∧ w.heap[g]? = some (.cells cur 3 (0, 0)) ∧ ∀ i, i < n → cur[off + i]? = some (.int .i64 (l.getD i 0)))

theorem OwnI.toJ {B n c : Nat} {a : Option Addr} {l : List Int} {w : World} (hn : l.length = n) (h : OwnI B (.slice a n c) l w) : OwnJ B (.slice a n c) l w := by
  refine ⟨a, n, c, rfl, hn, ?_⟩
  rcases h.2 with ⟨hv, h0⟩ | ⟨g, cap, cur, hv, hB, hh, _, _, hs, ht⟩
  · cases hv
    exact .inl ⟨rfl, by omega, rfl⟩
  · cases hv
    refine .inr ⟨g, 0, cur, rfl, hB, hh, fun i hi => ?_⟩
    rw [Nat.zero_add]
    have h1 : (cur.toList.take (l.length * 1))[i]? = (l.map (Value.int .i64))[i]? := by rw [ht]
    rw [List.getElem?_take_of_lt (by omega), List.getElem?_map] at h1
    rw [← Array.getElem?_toList, h1, List.getD_eq_getElem?_getD]
    cases e : l[i]? with
    | none => rw [List.getElem?_eq_none_iff] at e; omega
    | some z => rfl

theorem OwnJ.at {B n c : Nat} {a : Option Addr} {l : List Int} {w : World} (h : OwnJ B (.slice a n c) l w) {k : Nat} (hk : k < l.length) :
    ∃ g off, a = some ⟨g, off, none⟩ ∧ w.cell? ⟨g, off + k, none⟩ = some (.int .i64 (l.getD k 0)) ∧ w.frozen? ⟨g, off + k, none⟩ = false ∧ B ≤ g ∧ g < w.heap.size := by
  obtain ⟨_, _, _, hv, hl, h | ⟨g, off, cur, rfl, hB, hh, hc⟩⟩ := h
  · cases hv; omega
  · cases hv
    exact ⟨g, off, rfl, by simp only [World.cell?, hh]; exact hc k (by omega), by simp [World.frozen?, hh], hB, lt_of_block hh⟩

theorem OwnJ.row {B n c : Nat} {a : Option Addr} {l : List Int} {w : World} (h : OwnJ B (.slice a n c) l w) : RowI w a l := by
  obtain ⟨_, _, _, hv, hl, ⟨h1, h2, h3⟩ | ⟨g, off, cur, rfl, hB, hh, hc⟩⟩ := h
  · cases hv
    exact .inl (List.length_eq_zero_iff.1 (by omega))
  · cases hv
    exact .inr ⟨g, off, rfl, fun i hi => by simp only [World.cell?, hh]; exact hc i (by omega)⟩

theorem OwnJ.mono {B C : Nat} {v : Value} {l : List Int} {w : World} (h : OwnJ B v l w) (hC : C ≤ B) : OwnJ C v l w := by
  obtain ⟨a, n, c, hv, hl, h | ⟨g, off, cur, ha, hB, hh, hc⟩⟩ := h
  · exact ⟨a, n, c, hv, hl, .inl h⟩
  · exact ⟨a, n, c, hv, hl, .inr ⟨g, off, cur, ha, Nat.le_trans hC hB, hh, hc⟩⟩

theorem OwnJ.same {B n c : Nat} {a : Option Addr} {l : List Int} {w w' : World} (h : OwnJ B (.slice a n c) l w) (hk : ∀ x, a = some x → w'.heap[x.block]? = w.heap[x.block]?) : OwnJ B (.slice a n c) l w' := by
  obtain ⟨_, _, _, hv, hl, h | ⟨g, off, cur, rfl, hB, hh, hc⟩⟩ := h
  · exact ⟨_, _, _, hv, hl, .inl h⟩
  · cases hv
    exact ⟨_, _, _, rfl, hl, .inr ⟨g, off, cur, rfl, hB, (hk _ rfl).trans hh, hc⟩⟩

theorem OwnJ.lo {B n c : Nat} {a : Option Addr} {l : List Int} {w : World} (h : OwnJ B (.slice a n c) l w) : ∀ x, a = some x → B ≤ x.block ∧ x.block < w.heap.size := by
  obtain ⟨_, _, _, hv, hl, ⟨h1, _, _⟩ | ⟨g, off, cur, rfl, hB, hh, hc⟩⟩ := h
  · cases hv
    rintro x rfl
    cases h1
  · cases hv
    rintro x hx
    cases hx
    exact ⟨hB, lt_of_block hh⟩

theorem OwnJ.nil {B n c : Nat} {a : Option Addr} {l : List Int} {w : World} (h : OwnJ B (.slice a n c) l w) : a = none → c = 0 := by
  obtain ⟨_, _, _, hv, hl, ⟨h1, h2, h3⟩ | ⟨g, off, cur, rfl, hB, hh, hc⟩⟩ := h
  · cases hv
    exact fun _ => h3
  · cases hv
    intro h
    cases h

theorem OwnJ.below {B n c : Nat} {a : Option Addr} {l : List Int} {w w' : World} (h : OwnJ B (.slice a n c) l w) (hb : Below w.heap.size w w') : OwnJ B (.slice a n c) l w' :=
  h.same (fun x hx => hb.block _ (h.lo x hx).2)

theorem OwnJ.keep {B c n : Nat} {a : Option Addr} {l : List Int} {w w' : World} {g : Nat} (h : OwnJ B (.slice a n c) l w) (ho : Only g w w') (hne : ∀ x, a = some x → x.block ≠ g) : OwnJ B (.slice a n c) l w' :=
  h.same (fun x hx => ho.block _ (h.lo x hx).2 (hne x hx))

theorem OwnJ.keep2 {B c n g h : Nat} {a : Option Addr} {l : List Int} {w w' : World} (p : OwnJ B (.slice a n c) l w) (ho : Only2 g h w w') (hg : ∀ x, a = some x → x.block ≠ g) (hh : ∀ x, a = some x → x.block ≠ h) : OwnJ B (.slice a n c) l w' :=
  p.same (fun x hx => ho.block _ (p.lo x hx).2 (hg x hx) (hh x hx))

theorem OwnJ.alloc {B c n : Nat} {a : Option Addr} {l : List Int} {w : World} (p : OwnJ B (.slice a n c) l w) (o : Obj) : OwnJ B (.slice a n c) l (w.alloc o) :=
  p.below ((Below.refl _ _).alloc (Nat.le_refl _) o)

theorem ownJ_set {B c n : Nat} {a : Option Addr} {l : List Int} {w : World} {p : Addr} (hp : p.block < B) (h : OwnJ B (.slice a n c) l w) (v : Value) : OwnJ B (.slice a n c) l (w.setCell p v) :=
  h.same (fun x hx => Below.heap_setCell _ _ _ _ (by have := (h.lo x hx).1; omega))

theorem OwnJ.set {B c n : Nat} {a : Option Addr} {l : List Int} {w : World} {p : Addr} (h : OwnJ B (.slice a n c) l w) (hp : ∀ x, a = some x → x.block ≠ p.block) (v : Value) : OwnJ B (.slice a n c) l (w.setCell p v) :=
  h.same (fun x hx => Below.heap_setCell _ _ _ _ (hp x hx))

theorem OwnJ.stored {B n c g off : Nat} {l : List Int} {w : World} (h : OwnJ B (.slice (some ⟨g, off, none⟩) n c) l w) (hl : l.length = n) {k : Nat} (hk : k < n) (x : Int) : OwnJ B (.slice (some ⟨g, off, none⟩) n c) (l.set k x) (w.setCell ⟨g, off + k, none⟩ (.int .i64 x)) := by
  obtain ⟨_, _, _, hv, _, ⟨h1, _, _⟩ | ⟨g', off', cur, hg, hB, hh, hc⟩⟩ := h
  · cases hv; cases h1
  · cases hv
    cases hg
    refine ⟨_, _, _, rfl, by rw [List.length_set]; exact hl, .inr ⟨g, off, cur.setIfInBounds (off + k) (.int .i64 x), rfl, hB, ?_, fun i hi => ?_⟩⟩
    · exact set_cells hh (off + k) (.int .i64 x)
    · by_cases e : i = k
      · subst e
        have hlt : off + i < cur.size := by
          have := hc i hi
          rcases Nat.lt_or_ge (off + i) cur.size with h | h
          · exact h
          · rw [Array.getElem?_eq_none h] at this; cases this
        rw [Array.getElem?_setIfInBounds_self_of_lt hlt, List.getD_eq_getElem?_getD, List.getElem?_set_self (by omega)]
        rfl
      · rw [Array.getElem?_setIfInBounds_ne (by omega), List.getD_eq_getElem?_getD, List.getElem?_set_ne (by omega), ← List.getD_eq_getElem?_getD]
        exact hc i hi

set_option maxHeartbeats 1000000 in
/-- Two rows of numbers that are alike. -/
theorem eqIntS_row {a b : Option Addr} {ca cb : Nat} {l : List Int} {w : World} {n : Nat} (hn : l.length = n) (ha : RowI w a l) (hb : RowI w b l) (hl : (n : Int) ≤ 9223372036854775807) :
    Calls Try.prog 61 #[.slice a n ca, .slice b n cb] w (Gives (.bool true) w) := by
  have HN := Lib.hid hn
  have HA := Lib.hid ha
  have HB := Lib.hid hb
  clear hn ha hb
  go_enter Try.func61, Try.ntmps61
  go_wp2_with fail
  go_loopw [5] (fun i wr => ∃ k : Nat, k ≤ n ∧ i = .int .i64 k ∧ ∃ q, wr = w.drewN q) (fun i _ => n - (intOf i).toNat)
  case atStart => exact ⟨0, Nat.zero_le _, rfl, 0, rfl⟩
  case round =>
    obtain ⟨k, hk, rfl, q, rfl⟩ := hrel
    by_cases hlt : k < n
    · obtain ⟨ga, oa, rfl, hca⟩ := HA.out.at (k := k) (by rw [HN.out]; exact hlt)
      obtain ⟨gb, ob, rfl, hcb⟩ := HB.out.at (k := k) (by rw [HN.out]; exact hlt)
      obtain ⟨x, hx⟩ : ∃ x, l.getD k 0 = x := ⟨_, rfl⟩
      rw [hx] at hca hcb
      have txx : (x != x) = false := by simp
      clear hx
      go_wp2_with fail
      go_quiet (fail)
      go_wp2
      go_roundw
      case rel => exact ⟨k + 1, by omega, by go_num, _, rfl⟩
      case measure => simp [intOf]; omega
    · go_wp2_with fail
      go_ret
      exact ⟨rfl, rfl, rfl, rfl, Nat.le_refl _, fun _ _ => rfl⟩

set_option maxHeartbeats 1000000 in
theorem markIntS_j {B : Nat} {a : Option Addr} {c : Nat} {l : List Int} {w : World} {n : Nat} (hn : l.length = n) (h : OwnJ B (.slice a n c) l w) (k0 : Nat) (h1 : k0 + n ≤ 1000000000) (g0 : Nat) (hg0 : ∀ x, a = some x → x.block = g0) :
    Calls Try.prog 62 #[.slice a n c, .int .i64 k0] w fun e w' => e = .returned (.int .i64 ((k0 + n : Nat) : Int)) ∧ OwnJ B (.slice a n c) (marksI k0 n) w' ∧ Only g0 w w' := by
  have HN := Lib.hid hn
  have HO := Lib.hid h
  have HG0 := Lib.hid hg0
  clear hn h hg0
  go_enter Try.func62, Try.ntmps62
  go_wp2_with fail
  go_loopw [1, 5] (fun m i wr => ∃ k : Nat, k ≤ n ∧ i = .int .i64 k ∧ m = .int .i64 ((k0 + k : Nat) : Int) ∧ OwnJ B (.slice a n c) (marksI k0 k ++ l.drop k) wr ∧ Only g0 w wr) (fun _ i _ => n - (intOf i).toNat)
  case atStart => exact ⟨0, Nat.zero_le _, rfl, rfl, by simpa [marksI] using HO.out, Only.refl _ _⟩
  case round =>
    obtain ⟨k, hk, rfl, rfl, hown, hok⟩ := hrel
    by_cases hlt : k < n
    · have hlen : (marksI k0 k ++ l.drop k).length = n := by have := HN.out; simp [marksI_length]; omega
      obtain ⟨g, off, rfl, hc, hf, hB, hg⟩ := hown.at (k := k) (by rw [hlen]; exact hlt)
      have HL := Lib.hid hlen
      obtain ⟨old, hco⟩ : ∃ u, wr.cell? ⟨g, off + k, none⟩ = some u := ⟨_, hc⟩
      have HO2 := Lib.hid hown
      have HK2 := Lib.hid hok
      have HGG : Hid (g = g0) := HG0.out _ rfl
      have HST := Lib.hid (marksI_step k0 k l (by have := HN.out; omega))
      clear hc hlen hown hok
      go_wp2_with fail
      have R2 : OwnJ B (.slice (some ⟨g, off, none⟩) n c) (marksI k0 (k + 1) ++ l.drop (k + 1)) (wr.setCell ⟨g, off + k, none⟩ (.int .i64 ((k0 : Int) + (k : Int)))) := by
        rw [← HST.out]
        have := HO2.out.stored HL.out hlt (((k0 + k : Nat) : Int))
        rwa [show ((k0 + k : Nat) : Int) = (k0 : Int) + (k : Int) by simp] at this
      have HK3 := Lib.hid (HK2.out.setCell (p := ⟨g, off + k, none⟩) HGG.out (.int .i64 ((k0 : Int) + (k : Int))))
      go_roundw
      case rel => exact ⟨k + 1, by omega, by go_num, by go_num, R2, HK3.out⟩
      case measure => simp [intOf]; omega
    · obtain rfl : k = n := by omega
      have HF := Lib.hid hown
      go_wp2_with fail
      go_ret
      exact ⟨by first | rfl | exact ret_i (by omega), by have := HF.out; rwa [List.drop_of_length_le (by have := HN.out; omega), List.append_nil] at this, hok⟩

theorem marksI_getD (k0 : Nat) {n k : Nat} (h : k < n) : (marksI k0 n).getD k 0 = ((k0 + k : Nat) : Int) := by
  rw [List.getD_eq_getElem?_getD, List.getElem?_eq_getElem (by rw [marksI_length]; exact h), marksI_get]
  rfl

set_option maxHeartbeats 1000000 in
theorem heldIntS_row {a : Option Addr} {c : Nat} {n : Nat} {w : World} (k0 : Nat) (h : RowI w a (marksI k0 n)) (h1 : k0 + n ≤ 1000000000) :
    Calls Try.prog 63 #[.slice a n c, .int .i64 k0] w (Gives (.int .i64 ((k0 + n : Nat) : Int)) w) := by
  have HO := Lib.hid h
  clear h
  go_enter Try.func63, Try.ntmps63
  go_wp2_with fail
  go_loop [1, 5] (fun m i => ∃ k : Nat, k ≤ n ∧ i = .int .i64 k ∧ m = .int .i64 ((k0 + k : Nat) : Int)) (fun _ i => n - (intOf i).toNat)
  case atStart => exact ⟨0, Nat.zero_le _, rfl, rfl⟩
  case round =>
    obtain ⟨k, hk, rfl, rfl⟩ := hrel
    by_cases hlt : k < n
    · obtain ⟨g, off, rfl, hc⟩ := HO.out.at (k := k) (by rw [marksI_length]; exact hlt)
      rw [marksI_getD k0 hlt] at hc
      have hc' : w.cell? ⟨g, off + k, none⟩ = some (.int .i64 ((k0 : Int) + (k : Int))) := by rw [hc]; simp
      have txx : ((k0 : Int) + (k : Int) != (k0 : Int) + (k : Int)) = false := by simp
      clear hc
      go_wp2_with fail
      go_round
      case rel => exact ⟨k + 1, by omega, by go_num, by go_num⟩
      case measure => simp [intOf]; omega
    · obtain rfl : k = n := by omega
      go_wp2_with fail
      go_ret
      exact ⟨by first | rfl | exact ret_i (by omega), Below.refl _ _⟩

theorem eqReady_row {a1 a2 b1 b2 : Option Addr} {c1 c2 d1 d2 : Nat} {la ac : List Int} {w : World} {n1 n2 : Nat} (hn1 : la.length = n1) (hn2 : ac.length = n2) (ha1 : RowI w a1 la) (ha2 : RowI w a2 ac) (hb1 : RowI w b1 la) (hb2 : RowI w b2 ac) (hl1 : (n1 : Int) ≤ 9223372036854775807) (hl2 : (n2 : Int) ≤ 9223372036854775807) :
    Calls Try.prog 25 #[.agg #[.slice a1 n1 c1, .slice a2 n2 c2], .agg #[.slice b1 n1 d1, .slice b2 n2 d2]] w (Gives (.bool true) w) := by
  obtain ⟨w1, hw1⟩ : ∃ u, (w.alloc (.cells #[.slice a1 n1 c1, .slice a2 n2 c2] 33)).alloc (.cells #[.slice b1 n1 d1, .slice b2 n2 d2] 33) = u := ⟨_, rfl⟩
  have HB1 : Hid (Below w.heap.size w w1) := by subst hw1; exact ((Below.refl _ _).alloc (Nat.le_refl _) _).alloc (by simp) _
  have g1 : w1.heap[w.heap.size]? = some (.cells #[.slice a1 n1 c1, .slice a2 n2 c2] 33) := by subst hw1; exact heap_alloc2_old _ _ _
  have p1 : w1.heap[w.heap.size + 1]? = some (.cells #[.slice b1 n1 d1, .slice b2 n2 d2] 33) := by subst hw1; exact heap_alloc2_new _ _ _
  obtain ⟨u0, u1⟩ := cells2 g1
  obtain ⟨v0, v1⟩ := cells2 p1
  have HN1 := Lib.hid hn1
  have HN2 := Lib.hid hn2
  have HA1 := Lib.hid (ha1.below HB1.out)
  have HA2 := Lib.hid (ha2.below HB1.out)
  have HC1 := Lib.hid (hb1.below HB1.out)
  have HC2 := Lib.hid (hb2.below HB1.out)
  clear hn1 hn2 ha1 ha2 hb1 hb2
  go_enter Try.func25, Try.ntmps25
  go_wp2_with fail
  refine (eqIntS_row HN1.out HA1.out HC1.out hl1).mono ?_
  rintro e w2 ⟨rfl, hb2⟩
  have HB2 : Hid (Below w.heap.size w w2) := HB1.out.trans (hb2.mono HB1.out.size)
  have g2 := keep_block hb2 g1 (lt_of_block g1)
  have p2 := keep_block hb2 p1 (lt_of_block p1)
  have HA3 := Lib.hid (HA2.out.below hb2)
  have HC3 := Lib.hid (HC2.out.below hb2)
  clear hb2 u0 u1 v0 v1
  obtain ⟨u0, u1⟩ := cells2 g2
  obtain ⟨v0, v1⟩ := cells2 p2
  go_wp2_with fail
  refine (eqIntS_row HN2.out HA3.out HC3.out hl2).mono ?_
  rintro e w3 ⟨rfl, hb3⟩
  have HB3 : Hid (Below w.heap.size w w3) := HB2.out.trans (hb3.mono HB2.out.size)
  clear hb3
  go_wp2
  go_ret
  exact ⟨rfl, HB3.out⟩

theorem markReady_j {B1 B2 : Nat} {a1 a2 : Option Addr} {c1 c2 : Nat} {la ac : List Int} {w : World} {n1 n2 : Nat} (hn1 : la.length = n1) (hn2 : ac.length = n2) (h1 : OwnI B1 (.slice a1 n1 c1) la w) (h2 : OwnJ B2 (.slice a2 n2 c2) ac w) (k0 : Nat) (hk : k0 + n1 + n2 ≤ 1000000000) (g1 g2 : Nat) (hg1 : ∀ x, a1 = some x → x.block = g1) (hg2 : ∀ x, a2 = some x → x.block = g2) (hx1 : ∀ x, a1 = some x → x.block ≠ g2) (hx2 : ∀ x, a2 = some x → x.block ≠ g1) (hs1 : g1 ≠ w.heap.size) :
    Calls Try.prog 26 #[.agg #[.slice a1 n1 c1, .slice a2 n2 c2], .int .i64 k0] w fun e w' => e = .returned (.int .i64 ((k0 + n1 + n2 : Nat) : Int)) ∧ OwnI B1 (.slice a1 n1 c1) (marksI k0 n1) w' ∧ OwnJ B2 (.slice a2 n2 c2) (marksI (k0 + n1) n2) w' ∧ Only2 g1 g2 w w' := by
  obtain ⟨w1, hw1⟩ : ∃ u, w.alloc (.cells #[.slice a1 n1 c1, .slice a2 n2 c2] 33) = u := ⟨_, rfl⟩
  have HO1 : Hid (Only g1 w w1) := by subst hw1; exact (Only.refl _ _).alloc _
  have p1 : w1.heap[w.heap.size]? = some (.cells #[.slice a1 n1 c1, .slice a2 n2 c2] 33) := by subst hw1; exact heap_alloc_new _ _
  have HA : Hid (OwnI B1 (.slice a1 n1 c1) la w1) := by subst hw1; exact World.ownsRow.alloc h1 _
  have HC : Hid (OwnJ B2 (.slice a2 n2 c2) ac w1) := by subst hw1; exact h2.alloc _
  have HL : Hid ((∀ x, a1 = some x → x.block < w.heap.size) ∧ ∀ x, a2 = some x → x.block < w.heap.size) := ⟨fun x hx => (h1.lo x hx).2, fun x hx => (h2.lo x hx).2⟩
  obtain ⟨d0, d1⟩ := cells2 p1
  have HN1 := Lib.hid hn1
  have HN2 := Lib.hid hn2
  have HG1 := Lib.hid hg1
  have HG2 := Lib.hid hg2
  have HX1 := Lib.hid hx1
  have HX2 := Lib.hid hx2
  clear hn1 hn2 h1 h2 hg1 hg2 hx1 hx2
  go_enter Try.func26, Try.ntmps26
  go_wp2_with fail
  refine (markIntS_any HN1.out HA.out k0 (by omega) g1 HG1.out).mono ?_
  rintro e w2 ⟨rfl, own2, ho2⟩
  have p2 := (ho2.block _ (lt_of_block p1) (fun h => hs1 h.symm)).trans p1
  have HC2 := Lib.hid (HC.out.keep ho2 HX2.out)
  have HA2 := Lib.hid own2
  have HO2 := Lib.hid (HO1.out.trans ho2)
  clear own2 ho2 d0 d1
  obtain ⟨d0, d1⟩ := cells2 p2
  go_wp2_with fail
  refine (markIntS_j HN2.out HC2.out (k0 + n1) (by omega) g2 HG2.out).mono ?_
  rintro e w3 ⟨rfl, own3, ho3⟩
  have HA3 := Lib.hid (HA2.out.keep ho3 HX1.out)
  have HC3 := Lib.hid own3
  have HO3 := Lib.hid (HO2.out.two ho3)
  clear own3 ho3
  go_wp2
  go_ret
  exact ⟨rfl, HA3.out, HC3.out, HO3.out⟩

theorem heldReady_row {a1 a2 : Option Addr} {c1 c2 : Nat} {w : World} {n1 n2 : Nat} (k0 : Nat) (h1 : RowI w a1 (marksI k0 n1)) (h2 : RowI w a2 (marksI (k0 + n1) n2)) (hk : k0 + n1 + n2 ≤ 1000000000) :
    Calls Try.prog 27 #[.agg #[.slice a1 n1 c1, .slice a2 n2 c2], .int .i64 k0] w (Gives (.int .i64 ((k0 + n1 + n2 : Nat) : Int)) w) := by
  obtain ⟨w1, hw1⟩ : ∃ u, w.alloc (.cells #[.slice a1 n1 c1, .slice a2 n2 c2] 33) = u := ⟨_, rfl⟩
  have HB1 : Hid (Below w.heap.size w w1) := by subst hw1; exact (Below.refl _ _).alloc (Nat.le_refl _) _
  have p1 : w1.heap[w.heap.size]? = some (.cells #[.slice a1 n1 c1, .slice a2 n2 c2] 33) := by subst hw1; exact heap_alloc_new _ _
  have HA := Lib.hid (h1.below HB1.out)
  have HC := Lib.hid (h2.below HB1.out)
  obtain ⟨d0, d1⟩ := cells2 p1
  have t1 : decide (((k0 + n1 : Nat) : Int) < 0) = false := decide_eq_false (by omega)
  have t2 : decide (((k0 + n1 + n2 : Nat) : Int) < 0) = false := decide_eq_false (by omega)
  clear h1 h2
  go_enter Try.func27, Try.ntmps27
  go_wp2_with fail
  refine (heldIntS_row k0 HA.out (by omega)).mono ?_
  rintro e w2 ⟨rfl, hb2⟩
  have HB2 : Hid (Below w.heap.size w w2) := HB1.out.trans (hb2.mono HB1.out.size)
  have p2 := keep_block hb2 p1 (lt_of_block p1)
  have HC2 := Lib.hid (HC.out.below hb2)
  clear hb2 d0 d1
  obtain ⟨d0, d1⟩ := cells2 p2
  go_wp2_with fail
  refine (heldIntS_row (k0 + n1) HC2.out (by omega)).mono ?_
  rintro e w3 ⟨rfl, hb3⟩
  have HB3 : Hid (Below w.heap.size w w3) := HB2.out.trans (hb3.mono HB2.out.size)
  clear hb3
  go_wp2
  go_ret
  exact ⟨rfl, HB3.out⟩

theorem pick_rj {B1 B2 B n1 c1 n2 c2 : Nat} {a1 a2 : Option Addr} {la ac : List Int} {w : World} (h1 : OwnI B1 (.slice a1 n1 c1) la w) (h2 : OwnJ B2 (.slice a2 n2 c2) ac w) (hap : Apt a1 a2) (hB1 : B ≤ B1) (hB2 : B ≤ B2) (hBw : B ≤ w.heap.size) :
    ∃ g1 g2, (∀ x, a1 = some x → x.block = g1) ∧ (∀ x, a2 = some x → x.block = g2) ∧ (∀ x, a1 = some x → x.block ≠ g2) ∧ (∀ x, a2 = some x → x.block ≠ g1) ∧ g1 ≠ w.heap.size ∧ B ≤ g1 ∧ B ≤ g2 ∧ (∀ P, P < w.heap.size → (∀ x, a1 = some x → x.block ≠ P) → (∀ x, a2 = some x → x.block ≠ P) → P ≠ g1 ∧ P ≠ g2) := by
  have l1 := h1.lo
  have l2 := h2.lo
  rcases a1 with _ | x <;> rcases a2 with _ | y
  · exact ⟨w.heap.size + 1, w.heap.size + 1, (fun x h => by cases h), (fun x h => by cases h), (fun x h => by cases h), (fun x h => by cases h), by omega, by omega, by omega, fun P hP _ _ => ⟨by omega, by omega⟩⟩
  · have := l2 y rfl
    exact ⟨w.heap.size + 1, y.block, (fun x h => by cases h), (fun x h => by cases h; rfl), (fun x h => by cases h), (fun x h => by cases h; omega), by omega, by omega, by omega, fun P hP _ h => ⟨by omega, fun e => h y rfl e.symm⟩⟩
  · have := l1 x rfl
    exact ⟨x.block, w.heap.size + 1, (fun x h => by cases h; rfl), (fun x h => by cases h), (fun x h => by cases h; omega), (fun x h => by cases h), by omega, by omega, by omega, fun P hP h _ => ⟨fun e => h x rfl e.symm, by omega⟩⟩
  · have := l1 x rfl
    have := l2 y rfl
    have hne := hap x y rfl rfl
    exact ⟨x.block, y.block, (fun x h => by cases h; rfl), (fun x h => by cases h; rfl), (fun x h => by cases h; exact hne), (fun x h => by cases h; exact fun e => hne e.symm), by omega, by omega, by omega, fun P hP h h' => ⟨fun e => h x rfl e.symm, fun e => h' y rfl e.symm⟩⟩

/-- A call that answers a summary whose rows are its own, the second one anywhere in its block. -/
def GivesRj (n1 n2 : Nat) (la ac : List Int) (w : World) (e : Ending) (w' : World) : Prop :=
  ∃ a1 c1 a2 c2, e = .returned (.agg #[.slice a1 n1 c1, .slice a2 n2 c2]) ∧ OwnI w.heap.size (.slice a1 n1 c1) la w' ∧ OwnJ w.heap.size (.slice a2 n2 c2) ac w' ∧ Apt a1 a2 ∧ Below w.heap.size w w'

theorem GivesRd.toJ {n1 n2 : Nat} {la ac : List Int} {w w' : World} {e : Ending} (hn : ac.length = n2) (h : GivesRd n1 n2 la ac w e w') : GivesRj n1 n2 la ac w e w' := by
  obtain ⟨a1, c1, a2, c2, rfl, o1, o2, hp, hb⟩ := h
  exact ⟨a1, c1, a2, c2, rfl, o1, o2.toJ hn, hp, hb⟩

/-- From operation s on a variable is there; behind t it holds a rank with a row of its own. -/
def MadeJ (s t base n1 n2 : Nat) (la ac : List Int) (listed : Array Bool) (x : Nat → Value) (u : World) : Prop :=
  (listed.getD t false = true → listed.getD s false = true) ∧
  (listed.getD s false = true → ∃ g, x s = .pointer (some ⟨g, 0, none⟩) ∧ base ≤ g ∧
    (listed.getD t false = false → u.heap[g]? = some (.cells #[.slice none 0 0, .slice none 0 0] 33)) ∧
    (listed.getD t false = true → ∃ aa ca ab cb, u.heap[g]? = some (.cells #[.slice aa n1 ca, .slice ab n2 cb] 33) ∧ OwnI base (.slice aa n1 ca) la u ∧ OwnJ base (.slice ab n2 cb) ac u ∧ Apt aa ab))

theorem MadeJ.zero (s t base n1 n2 : Nat) (la ac : List Int) (k : Nat) (x : Nat → Value) (u : World) : MadeJ s t base n1 n2 la ac (Array.replicate k false) x u :=
  ⟨fun h => (by rw [getD_replicate_false] at h; cases h), fun h => by rw [getD_replicate_false] at h; cases h⟩

theorem MadeJ.keep {s t base n1 n2 : Nat} {la ac : List Int} {listed : Array Bool} {x : Nat → Value} {u u' : World} (h : MadeJ s t base n1 n2 la ac listed x u) {i : Nat} (hs : i ≠ s) (ht : i ≠ t) (v : Value) (hb : Below u.heap.size u u') :
    MadeJ s t base n1 n2 la ac (listed.setIfInBounds i true) (upd x i v) u' := by
  refine ⟨fun h1 => ?_, fun h1 => ?_⟩
  · rw [getD_set_ne false ht] at h1
    exact getD_set_true (h.1 h1)
  · rw [getD_set_ne false hs] at h1
    rw [getD_set_ne false ht]
    obtain ⟨g, e, hg, hz, hf⟩ := h.2 h1
    refine ⟨g, by rw [upd_other _ _ (Ne.symm hs)]; exact e, hg, fun h0 => keep_block hb (hz h0) (lt_of_block (hz h0)), fun h0 => ?_⟩
    obtain ⟨aa, ca, ab, cb, hh, ho, hp, hq⟩ := hf h0
    exact ⟨aa, ca, ab, cb, keep_block hb hh (lt_of_block hh), ho.below hb, hp.below hb, hq⟩

theorem MadeJ.new {s t base n1 n2 : Nat} {la ac : List Int} {listed : Array Bool} {x : Nat → Value} {u : World} (h : MadeJ s t base n1 n2 la ac listed x u) (hst : s ≠ t) (hs : listed.getD s false = false) (hb : base ≤ u.heap.size) :
    MadeJ s t base n1 n2 la ac (listed.setIfInBounds s true) (upd x s (.pointer (some ⟨u.heap.size, 0, none⟩))) (u.alloc (.cells #[.slice none 0 0, .slice none 0 0] 33)) := by
  have ht : listed.getD t false = false := by
    cases e : listed.getD t false with
    | false => rfl
    | true => have := h.1 e; rw [hs] at this; cases this
  refine ⟨fun h1 => ?_, fun h1 => ?_⟩
  · rw [getD_set_ne false hst, ht] at h1; cases h1
  · rw [getD_set_ne false hst, ht]
    exact ⟨_, upd_same _ _ _, hb, fun _ => heap_alloc_new _ _, fun h0 => by cases h0⟩

theorem MadeJ.there {s t base n1 n2 : Nat} {la ac : List Int} {listed : Array Bool} {x : Nat → Value} {u : World} (h : MadeJ s t base n1 n2 la ac listed x u) (hs : listed.getD s false = true) (ht : listed.getD t false = false) :
    ∃ g, x s = .pointer (some ⟨g, 0, none⟩) ∧ base ≤ g ∧ u.heap[g]? = some (.cells #[.slice none 0 0, .slice none 0 0] 33) := by
  obtain ⟨g, e, hg, hz, _⟩ := h.2 hs
  exact ⟨g, e, hg, hz ht⟩

theorem MadeJ.fill {s t base n1 n2 : Nat} {la ac : List Int} {listed : Array Bool} {x : Nat → Value} {u' : World} {g ca cb : Nat} {aa ab : Option Addr} {v : Value} (hst : s ≠ t) (hs : listed.getD s false = true) (ht : t < listed.size) (hx : x s = .pointer (some ⟨g, 0, none⟩)) (hg : base ≤ g)
    (hh : u'.heap[g]? = some (.cells #[.slice aa n1 ca, .slice ab n2 cb] 33)) (ho : OwnI base (.slice aa n1 ca) la u') (hp : OwnJ base (.slice ab n2 cb) ac u') (hq : Apt aa ab) : MadeJ s t base n1 n2 la ac (listed.setIfInBounds t true) (upd x t v) u' := by
  refine ⟨fun _ => getD_set_true hs, fun _ => ⟨g, by rw [upd_other _ _ hst]; exact hx, hg, fun h0 => ?_, fun _ => ⟨aa, ca, ab, cb, hh, ho, hp, hq⟩⟩⟩
  rw [get_set_same false ht] at h0
  cases h0

theorem MadeJ.full {s t base n1 n2 : Nat} {la ac : List Int} {listed : Array Bool} {x : Nat → Value} {u : World} (h : MadeJ s t base n1 n2 la ac listed x u) (hs : listed.getD s false = true) (ht : listed.getD t false = true) :
    ∃ g aa ca ab cb, x s = .pointer (some ⟨g, 0, none⟩) ∧ base ≤ g ∧ u.heap[g]? = some (.cells #[.slice aa n1 ca, .slice ab n2 cb] 33) ∧ OwnI base (.slice aa n1 ca) la u ∧ OwnJ base (.slice ab n2 cb) ac u ∧ Apt aa ab := by
  obtain ⟨g, e, hg, _, hf⟩ := h.2 hs
  obtain ⟨aa, ca, ab, cb, hh, ho, hp, hq⟩ := hf ht
  exact ⟨g, aa, ca, ab, cb, e, hg, hh, ho, hp, hq⟩

end Go.Proofs.Ythplhjdfajhmpaa

namespace Go.Proofs.Ythplhjdfajhmpaa
open Go.RowKit

set_option linter.unusedVariables false

theorem OwnI.capI {B n c : Nat} {a : Option Addr} {l : List Int} {w : World} (h : OwnI B (.slice a n c) l w) : n ≤ c := by
  rcases h.2 with ⟨hv, h0⟩ | ⟨b, cap, cur, hv, hB, hk, hc, _⟩
  · cases hv
    exact Nat.zero_le _
  · cases hv
    exact hc

def IReadyNew : Prop := ∀ (g0 B g2 g3 : Int) (N : Nat) (hN : bankN g0 B g2 g3 = (N : Int)) (la : List Int) (hla : newL g0 B g2 g3 N = la) (n1 : Nat) (hn1 : la.length = n1) (w : World), Calls Try.prog 12 #[.agg #[.int .i64 g0, .int .i64 B, .int .i64 g2, .int .i64 g3]] w (GivesRd n1 0 la [] w)

def IReadyOk : Prop := ∀ (g0 B g2 g3 : Int) (N : Nat) (hN : bankN g0 B g2 g3 = (N : Int)) (a1 : Option Addr) (n1 c1 : Nat) (la : List Int) (a2 : Option Addr) (n2 c2 : Nat) (ac : List Int) (v : Bool) (hv : decide (RdOk g0 B g2 g3 N la ac) = v) (hl1 : la.length = n1) (h1 : n1 ≤ 3000000) (hl2 : ac.length = n2) (h2 : n2 ≤ 3000000) (hnc1 : a1 = none → c1 = 0) (hnc2 : a2 = none → c2 = 0) (hc1 : n1 ≤ c1) (w : World) (hr1 : RowI w a1 la) (hr2 : RowI w a2 ac), Calls Try.prog 31 #[.agg #[.int .i64 g0, .int .i64 B, .int .i64 g2, .int .i64 g3], .agg #[.slice a1 n1 c1, .slice a2 n2 c2]] w (Gives (.bool v) w)

def IReadyAfter : Prop := ∀ (g0 B g2 g3 : Int) (N : Nat) (hN : bankN g0 B g2 g3 = (N : Int)) (a1 : Option Addr) (n1 c1 : Nat) (la : List Int) (a2 : Option Addr) (n2 c2 : Nat) (ac : List Int) (e : Ev) (l' a' : List Int) (n2' : Nat) (hl' : rdL g0 B g2 g3 N la ac e = l') (ha' : rdA g0 B g2 g3 N la ac e = a') (hn2' : a'.length = n2') (hl1 : la.length = n1) (h1 : n1 ≤ 3000000) (hl2 : ac.length = n2) (h2 : n2 ≤ 3000000) (hnc1 : a1 = none → c1 = 0) (hnc2 : a2 = none → c2 = 0) (hc1 : n1 ≤ c1) (w : World) (hr1 : RowI w a1 la) (hr2 : RowI w a2 ac), Calls Try.prog 15 #[.agg #[.int .i64 g0, .int .i64 B, .int .i64 g2, .int .i64 g3], .agg #[.slice a1 n1 c1, .slice a2 n2 c2], .agg #[.int .i64 e.t, .int .i64 e.k, .int .i64 e.x, .int .i64 e.y, .int .i64 e.z]] w (GivesRj n1 n2' l' a' w)

def IReadyOf : Prop := ∀ (g0 B g2 g3 : Int) (N : Nat) (hN : bankN g0 B g2 g3 = (N : Int)) (a : Option Addr) (n c : Nat) (L : List Ev) (la ac : List Int) (n1 n2 : Nat) (hla : (ofT g0 B g2 g3 N L).1 = la) (hac : (ofT g0 B g2 g3 N L).2 = ac) (hn1 : la.length = n1) (hn2 : ac.length = n2) (hl : L.length = n) (h1 : n ≤ 3000000) (hnc : a = none → c = 0) (w : World) (hr : evK.Row w a L), Calls Try.prog 14 #[.agg #[.int .i64 g0, .int .i64 B, .int .i64 g2, .int .i64 g3], .slice a n c] w (GivesRj n1 n2 la ac w)

def IReadyAt : Prop := ∀ (t : Tm) (g0 B g2 g3 : Int) (N : Nat) (hN : bankN g0 B g2 g3 = (N : Int)) (a1 : Option Addr) (n1 c1 : Nat) (la : List Int) (a2 : Option Addr) (n2 c2 : Nat) (ac : List Int) (k x y z v : Int) (hv : atV g0 B g2 g3 t N la ac k x y z = v) (hl1 : la.length = n1) (h1 : n1 ≤ 3000000) (hl2 : ac.length = n2) (h2 : n2 ≤ 3000000) (hnc1 : a1 = none → c1 = 0) (hnc2 : a2 = none → c2 = 0) (hc1 : n1 ≤ c1) (w : World) (hr1 : RowI w a1 la) (hr2 : RowI w a2 ac), Calls Try.prog 38 #[.agg #[.int .i64 g0, .int .i64 B, .int .i64 g2, .int .i64 g3], .agg #[.int .i64 t.rcd, .int .i64 t.rp, .int .i64 t.ras, .int .i64 t.rrds, .int .i64 t.rrdl, .int .i64 t.faw, .int .i64 t.ccds, .int .i64 t.ccdl, .int .i64 t.rtp, .int .i64 t.wr, .int .i64 t.wtrs, .int .i64 t.wtrl, .int .i64 t.rtw, .int .i64 t.rfc, .int .i64 t.cke, .int .i64 t.xp, .int .i64 t.xs], .agg #[.slice a1 n1 c1, .slice a2 n2 c2], .agg #[.int .i64 k, .int .i64 x, .int .i64 y, .int .i64 z]] w (Gives (.int .i64 v) w)

end Go.Proofs.Ythplhjdfajhmpaa

namespace Go.Proofs.Ythplhjdfajhmpaa
open Go.RowKit Go.PlainAid

set_option linter.unusedVariables false

/-- What a pointer's summary is behind a further event: two rows that show the numbers. -/
def DoneRd (B0 base P n1 c1 n2' : Nat) (a1 : Option Addr) (la ac : List Int) (w : World) (e : Ending) (w' : World) : Prop :=
  e = .returned (.tuple #[]) ∧ ∃ ab cb, w'.heap[P]? = some (.cells #[.slice a1 n1 c1, .slice ab n2' cb] 33) ∧ OwnI base (.slice a1 n1 c1) la w' ∧ RowI w' ab ac ∧ (ab = none → cb = 0) ∧ Below B0 w w'

theorem OwnI.nil {B n c : Nat} {a : Option Addr} {l : List Int} {w : World} (h : OwnI B (.slice a n c) l w) : a = none → c = 0 := by
  intro ha
  subst ha
  rcases h.2 with ⟨hv, _⟩ | ⟨b, cap, cur, hv, _⟩
  · cases hv; rfl
  · cases hv

theorem one_int {w : World} {g : Nat} {t : Int} {fr : Nat × Nat} (h : w.heap[g]? = some (.cells #[.int .i64 t] 3 fr)) : RowI w (some ⟨g, 0, none⟩) [t] := by
  refine .inr ⟨g, 0, rfl, fun i hi => ?_⟩
  obtain rfl : i = 0 := by simpa using hi
  simp [World.cell?, h]

theorem OwnI.tailRowR {B n c rb : Nat} {l : List Int} {w : World} (h : OwnI B (.slice (some ⟨rb, 0, none⟩) n c) l w) : RowI w (some ⟨rb, 1, none⟩) l.tail := by
  refine .inr ⟨rb, 1, rfl, fun i hi => ?_⟩
  rw [List.length_tail] at hi
  obtain ⟨g, hg, hc⟩ := h.get (k := i + 1) (by omega)
  cases hg
  rw [Nat.add_comm 1 i, List.getD_eq_getElem?_getD, List.getElem?_tail]
  rwa [List.getD_eq_getElem?_getD] at hc

theorem RowI.setOff {w : World} {a : Option Addr} {l : List Int} (h : RowI w a l) {p : Addr} (hp : ∀ x, a = some x → x.block ≠ p.block) (u : Value) : RowI (w.setCell p u) a l := by
  rcases h with h | ⟨b, off, rfl, h⟩
  · exact .inl h
  · exact .inr ⟨b, off, rfl, fun i hi => by
      have e : (w.setCell p u).heap[b]? = w.heap[b]? := Below.heap_setCell _ _ _ _ (hp _ rfl)
      exact (World.cell?_of_block (a := ⟨b, off + i, none⟩) (w := w) e).trans (h i hi)⟩

set_option maxHeartbeats 16000000 in
set_option maxRecDepth 100000 in
theorem specDoR_is {B0 base base2 P n1 c1 n2 c2 N n2' : Nat} {a1 a2 : Option Addr} {la ac : List Int} {g0 B g2 g3 t k x0 y0 z0 : Int} (hN : bankN g0 B g2 g3 = (N : Int)) (hk : 1 ≤ k ∧ k ≤ 9) (hx : k ≤ 5 → 0 ≤ x0 ∧ x0 < (N : Int)) (hl1 : la.length = n1) (hl9 : n1 = 9 * (N + 1)) (hl2 : ac.length = n2) (h4 : n2 ≤ 4) (hn2' : (addA ac ⟨t, k, x0, y0, z0⟩).length = n2') {w : World}
    (hP : w.heap[P]? = some (.cells #[.slice a1 n1 c1, .slice a2 n2 c2] 33)) (hO : OwnI base (.slice a1 n1 c1) la w) (hA : OwnI base2 (.slice a2 n2 c2) ac w) (hap : Apt a1 a2) (hne : ∀ x, a1 = some x → x.block ≠ P) (hBP : B0 ≤ P) (hBb : B0 ≤ base) :
    Calls Try.prog 70 #[.agg #[.int .i64 g0, .int .i64 B, .int .i64 g2, .int .i64 g3], .pointer (some ⟨P, 0, none⟩), .agg #[.int .i64 t, .int .i64 k, .int .i64 x0, .int .i64 y0, .int .i64 z0]] w (DoneRd B0 base P n1 c1 n2' a1 (addL N la ⟨t, k, x0, y0, z0⟩) (addA ac ⟨t, k, x0, y0, z0⟩) w) := by
  have hlt := lt_of_block hP
  obtain ⟨w1, hw1⟩ : ∃ u, (w.alloc (.cells #[.int .i64 g0, .int .i64 B, .int .i64 g2, .int .i64 g3] 25)).alloc (.cells #[.int .i64 t, .int .i64 k, .int .i64 x0, .int .i64 y0, .int .i64 z0] 41) = u := ⟨_, rfl⟩
  have hb1 : Below w.heap.size w w1 := by subst hw1; exact ((Below.refl _ _).alloc (Nat.le_refl _) _).alloc (by simp) _
  have g1 : w1.heap[w.heap.size]? = some (.cells #[.int .i64 g0, .int .i64 B, .int .i64 g2, .int .i64 g3] 25) := by subst hw1; exact heap_alloc2_old _ _ _
  have q1 : w1.heap[w.heap.size + 1]? = some (.cells #[.int .i64 t, .int .i64 k, .int .i64 x0, .int .i64 y0, .int .i64 z0] 41) := by subst hw1; exact heap_alloc2_new _ _ _
  have p1 := keep_block hb1 hP hlt
  have HO := Lib.hid (hO.below hb1)
  have HA := Lib.hid (hA.below hb1)
  have HB1 : Hid (Below B0 w w1) := hb1.mono (by omega)
  have HL1 := Lib.hid hl1
  have HL2 := Lib.hid hl2
  have HN := Lib.hid hN
  have HAP := Lib.hid hap
  have HNP := Lib.hid hne
  have HBP := Lib.hid hBP
  have HBB := Lib.hid hBb
  have HPN := Lib.hid hn2'
  have HNC2 : Hid (a2 = none → c2 = 0) := hA.nil
  have hr := bankN_range g0 B g2 g3
  have hN8 : N ≤ 8 := by omega
  obtain ⟨i, hi⟩ : ∃ i, slotI N k x0 = i := ⟨_, rfl⟩
  have HI : Hid (i < n1) := by show _ < _; rw [← hi, hl9]; exact slot_lt hk hx
  have HADD : Hid (addL N la ⟨t, k, x0, y0, z0⟩ = la.set i t) := by show _ = _; unfold addL; rw [hi]
  have hkk := hk
  obtain ⟨gb, rfl, hcl, hf, hBg, hgl⟩ := HO.out.at (k := i) (by rw [hl1]; exact HI.out)
  obtain ⟨old, hcell⟩ : ∃ u, w1.cell? ⟨gb, i, none⟩ = some u := ⟨_, hcl⟩
  clear hcl
  have HQN : Hid (gb < w.heap.size) := by have := (hO.lo _ rfl).2; exact this
  have HBG : Hid (B0 ≤ gb) := Nat.le_trans hBb hBg
  clear hf hP hO hA hb1 hap hne hn2' hr hN hl1 hl2 hBb hl9
  obtain ⟨c0, c1', c2', c3⟩ := cells4 g1
  obtain ⟨s, hs⟩ : ∃ s : Int, (if k ≤ 5 then x0 else (N : Int)) = s := ⟨_, rfl⟩
  have hsr : 0 ≤ s ∧ s ≤ 8 := by
    rw [← hs]
    split
    · rename_i h; have := hx h; omega
    · omega
  have hsi : 9 * s + k - 1 = (i : Int) := by
    rw [← hs, ← hi]
    unfold slotI
    split
    · rename_i h; have := hx h; omega
    · omega
  have f1 : IntKind.i64.wrap (9 * s) = 9 * s := IntWalk.i64_in _ (by omega)
  have f2 : IntKind.i64.wrap (9 * s + k) = 9 * s + k := IntWalk.i64_in _ (by omega)
  have f3 : IntKind.i64.wrap (9 * s + k - 1) = (i : Int) := by rw [IntWalk.i64_in _ (by omega)]; exact hsi
  go_enter Try.func70, Try.ntmps70
  go_wp2_with fail
  refine (specBank_is _ _ _ _ _ HN.out _).mono ?_
  rintro e w2 ⟨rfl, hb2⟩
  have p2 := keep_block hb2 p1 (lt_of_block p1)
  have q2 := keep_block hb2 q1 (lt_of_block q1)
  have HO2 := Lib.hid (HO.out.below hb2)
  have HA2 := Lib.hid (HA.out.below hb2)
  have HB2 : Hid (Below B0 w w2) := HB1.out.trans (hb2.mono (by have := lt_of_block p1; have := HBP.out; omega))
  have hcell2 := keep_cell hb2 hcell hgl
  have hgl2 : gb < w2.heap.size := Nat.lt_of_lt_of_le hgl hb2.size
  clear hb2 c0 c1' c2' c3 hcell hgl HO HA HB1 g1 p1 q1 hw1 hx hsi hi
  obtain ⟨e0, e1, e2, e3, e4⟩ := cells5 q2
  obtain ⟨d0, d1⟩ := cells2 p2
  have ze0 := fun u : Later w2 => u.cell e0
  have ze1 := fun u : Later w2 => u.cell e1
  have zp0 := fun u : Later w2 => u.cell d0
  by_cases h5 : k ≤ 5
  case' pos =>
    obtain rfl : x0 = s := by rw [← hs, if_pos h5]
    have t5 : decide (k ≤ 5) = true := decide_eq_true h5
    clear hs h5
    go_wp2_with fail
  case' neg =>
    obtain rfl : (N : Int) = s := by rw [← hs, if_neg h5]
    have t5 : decide (k ≤ 5) = false := decide_eq_false h5
    clear hs h5
    go_wp2_with fail
  all_goals
    refine wp_region_later_tail 13 (by kernel_rfl) (by kernel_rfl) ?_
    simp only [List.take_succ_cons, List.take_zero, List.drop_succ_cons, List.drop_zero]
    repeat (go_big_quiet_step (fail))
    refine wpQuiet_nil ?_
    rintro w3 ⟨zz, hz⟩
    have hb3 : Below w2.heap.size w2 w3 := hz ▸ zz.ok
    have p3 := keep_block hb3 p2 (lt_of_block p2)
    have q3 := keep_block hb3 q2 (lt_of_block q2)
    have O3 := Lib.hid (HO2.out.below hb3)
    have A3 := Lib.hid (HA2.out.below hb3)
    have HB3 : Hid (Below B0 w w3) := HB2.out.trans (hb3.mono (by have := lt_of_block p2; have := HBP.out; omega))
    have hci := keep_cell hb3 hcell2 hgl2
    obtain ⟨g', hg', _, hfz, _, _⟩ := O3.out.at (k := i) (by rw [HL1.out]; exact HI.out)
    cases hg'
    have hfi := hfz
    have O4 : Hid (OwnI base (.slice (some ⟨gb, 0, none⟩) n1 c1) (addL N la ⟨t, k, x0, y0, z0⟩) (w3.setCell ⟨gb, i, none⟩ (.int .i64 t))) := by
      show OwnI _ _ _ _
      rw [HADD.out]
      exact O3.out.stored HL1.out i t
    have A4 : Hid (OwnI base2 (.slice a2 n2 c2) ac (w3.setCell ⟨gb, i, none⟩ (.int .i64 t))) := ownI_same A3.out (fun y hy => Below.heap_setCell _ _ _ _ (fun e => HAP.out _ y rfl hy e.symm))
    have p4 : (w3.setCell ⟨gb, i, none⟩ (.int .i64 t)).heap[P]? = some (.cells #[.slice (some ⟨gb, 0, none⟩) n1 c1, .slice a2 n2 c2] 33) := (Below.heap_setCell w3 ⟨gb, i, none⟩ _ P (fun e => HNP.out _ rfl (by exact e.symm))).trans p3
    have q4 : (w3.setCell ⟨gb, i, none⟩ (.int .i64 t)).heap[w.heap.size + 1]? = some (.cells #[.int .i64 t, .int .i64 k, .int .i64 x0, .int .i64 y0, .int .i64 z0] 41) := (Below.heap_setCell _ _ _ _ (by have := HQN.out; show w.heap.size + 1 ≠ gb; omega)).trans q3
    have HB4 : Hid (Below B0 w (w3.setCell ⟨gb, i, none⟩ (.int .i64 t))) := HB3.out.setCell (by have := HBG.out; exact this) _
    clear ze0 ze1 zp0 hz zz hb3 hcell2 p2 q2 HO2 HA2 HB2 hfz
    clear e0 e1 e2 e3 e4 d0 d1
    obtain ⟨e0, e1, e2, e3, e4⟩ := cells5 q4
    by_cases hk1 : k = 1
    case' neg =>
      have tk : (k == 1) = false := by simp [hk1]
      have HAC : Hid (addA ac ⟨t, k, x0, y0, z0⟩ = ac) := if_neg hk1
      have HN2 : Hid (n2 = n2') := by have h := HPN.out; rw [HAC.out, HL2.out] at h; exact h
      clear hk1
      go_wp2_with fail
      (try simp only [Exit.inBlock, Exit.then])
      refine bodyPost_ret (v := .tuple #[]) (by simp [results, Try.results70]) rfl ⟨rfl, a2, c2, ?_, O4.out, by rw [HAC.out]; exact A4.out.row, HNC2.out, HB4.out⟩
      rw [← HN2.out]
      exact p4
    case' pos =>
      subst hk1
      first | exact absurd t5 (by decide) | skip
      all_goals
        obtain ⟨m, hm⟩ : ∃ m, n2 + 1 = m := ⟨_, rfl⟩
        have HM := Lib.hid hm
        have hm5 : m ≤ 5 := by omega
        have hm0 : 0 < m := by omega
        have HAC : Hid (addA ac ⟨t, 1, x0, y0, z0⟩ = if 4 < m then (ac ++ [t]).drop 1 else ac ++ [t]) := by
          have hlen : (ac ++ [t]).length = m := by rw [List.length_append, HL2.out, List.length_singleton]; exact hm
          show (if (1 : Int) = 1 then (if 4 < (ac ++ [t]).length then _ else _) else _) = _
          rw [if_pos rfl, hlen]
        have hn24 : n2 ≤ 4 := h4
        have HR2 := Lib.hid A4.out.row
        clear hm A4
        have q4' := q4
        go_wp2_with fail
        clear e0 e1 e2 e3 e4
        clear q4
        generalize (w3.setCell ⟨gb, i, none⟩ (.int .i64 t)) = w5 at p4 q4' O4 HB4 HR2 ⊢
        have p5 := p4
        have q5 := q4'
        have HO5 := O4
        have HB5 := HB4
        refine wp_region_flowG (fun k => match k with | 0 => some (.pointer (some ⟨P, 0, none⟩)) | 2 => some (.pointer (some ⟨P, 0, none⟩)) | 3 => some (.pointer (some ⟨P, 0, none⟩)) | 4 => some (.pointer (some ⟨P, 1, none⟩)) | 5 => some (.slice a2 n2 c2) | 7 => some (.pointer (some ⟨w.heap.size + 1, 0, none⟩)) | 8 => some (.int .i64 t) | 11 => some (.pointer (some ⟨P, 0, none⟩)) | 12 => some (.pointer (some ⟨P, 1, none⟩)) | _ => none) (fun listed x u => TillW 13 (fun u => Below w5.heap.size w5 u) listed u ∧ AllW 13 listed ∧ FromW 13 (fun u => ∃ ab cb, u.heap[P]? = some (.cells #[.slice (some ⟨gb, 0, none⟩) n1 c1, .slice ab m cb] 33) ∧ OwnI base (.slice (some ⟨gb, 0, none⟩) n1 c1) (addL N la ⟨t, 1, x0, y0, z0⟩) u ∧ OwnI w5.heap.size (.slice ab m cb) (ac ++ [t]) u ∧ Below B0 w u) listed u ∧ FactW 1 6 (fun q u => ∃ bn, q = .slice (some ⟨bn, 0, none⟩) 0 0 ∧ OwnI w5.heap.size (.slice (some ⟨bn, 0, none⟩) 0 0) [] u) listed x u ∧ FactW 6 10 (fun q u => ∃ ab cb, q = .slice ab n2 cb ∧ OwnI w5.heap.size (.slice ab n2 cb) (ac) u) listed x u ∧ FactW 9 10 (fun q u => ∃ bn, q = .slice (some ⟨bn, 0, none⟩) 1 1 ∧ u.heap[bn]? = some (.cells #[.int .i64 t] 3)) listed x u ∧ FactW 10 13 (fun q u => ∃ ab cb, q = .slice ab m cb ∧ OwnI w5.heap.size (.slice ab m cb) (ac ++ [t]) u) listed x u ∧ Aft 10 6 listed ∧ Aft 6 1 listed ∧ Aft 12 11 listed ∧ Apart 1 9 6 listed x) (fun _ => undef) (by kernel_rfl) (by kernel_rfl) ?hxTAGX ?hSTAGX ?hsTAGX ?heTAGX
        case hxTAGX => simp only [putsX, Act.put, List.setIfInBounds_toArray, List.set_cons_zero, List.set_cons_succ]
        case hSTAGX => exact ⟨fun _ => ⟨rfl, rfl, rfl, Nat.le_refl _, fun _ _ => rfl⟩, fun j _ => Aft.zero _ _ _, FromW.zero _ _ _ _, FactW.zero _ _ _ _ _ _, FactW.zero _ _ _ _ _ _, FactW.zero _ _ _ _ _ _, FactW.zero _ _ _ _ _ _, Aft.zero _ _ _, Aft.zero _ _ _, Aft.zero _ _ _, Apart.zero _ _ _ _ _⟩
        case hsTAGX =>
          simp only [flowSteps]
          refine ⟨?sTAGX_0, ?sTAGX_1, ?sTAGX_2, ?sTAGX_3, ?sTAGX_4, ?sTAGX_5, ?sTAGX_6, ?sTAGX_7, ?sTAGX_8, ?sTAGX_9, ?sTAGX_10, ?sTAGX_11, ?sTAGX_12, ?sTAGX_13, trivial⟩
          case sTAGX_0 =>
            intro listed bb u hsz hn hwt hinv
            obtain ⟨x, rfl, hU, hC9, hA9, hFin, h1, h6, h9, h10, hA106, hA61, hA1211, hAp⟩ := hinv
            have n9 : listed.getD 13 false = false := (hA9 0 (by decide)).no hn
            have hC := hC9 n9
            simp only [putsX, Act.put, List.setIfInBounds_toArray, List.set_cons_zero, List.set_cons_succ]
            go_wp2_with fail
            refine stepQ_normal ⟨trivial, upd x 0 (.pointer (some ⟨P, 0, none⟩)), ?_, hU.step (fun _ h => Option.some.inj h), (fun _ => hC), hA9.keep (by decide), FromW.no n9 (by decide), h1.keep (by decide) (by decide) _ id, h6.keep (by decide) (by decide) _ id, h9.keep (by decide) (by decide) _ id, h10.keep (by decide) (by decide) _ id, hA106.keep (by decide), hA61.keep (by decide), hA1211.keep (by decide), hAp.keep (by decide) (by decide) (by decide) _⟩
            simp only [upd]
            rfl
          case sTAGX_1 =>
            intro listed bb u hsz hn hwt hinv
            obtain ⟨x, rfl, hU, hC9, hA9, hFin, h1, h6, h9, h10, hA106, hA61, hA1211, hAp⟩ := hinv
            have n9 : listed.getD 13 false = false := (hA9 1 (by decide)).no hn
            have hC := hC9 n9
            simp only [putsX, Act.put, List.setIfInBounds_toArray, List.set_cons_zero, List.set_cons_succ]
            have N6 : listed.getD 6 false = false := hA61.no hn
            have N10 : listed.getD 10 false = false := hA106.no N6
            have NEW : listed.getD 9 false = true → ∀ (b : Addr) (n' c' : Nat), x 9 = .slice (some b) n' c' → u.heap.size ≠ b.block := fun h4l b n' c' hx => by
              obtain ⟨bn, e1, e2⟩ := h9 h4l N10
              rw [e1] at hx
              cases hx
              have := lt_of_block e2
              show u.heap.size ≠ bn
              omega
            go_wp2_with fail
            refine stepQ_normal ⟨trivial, upd x 1 (.slice (some ⟨u.heap.size, 0, none⟩) 0 0), ?_, hU.step (fun _ h => by cases h), (fun _ => hC.alloc hC.size _), hA9.keep (by decide), FromW.no n9 (by decide), FactW.new ⟨_, rfl, World.ownsRow_made (base := w5.heap.size) (e := 3) (size := 1) u #[] 0 hC.size (by decide) rfl⟩, h6.keep (by decide) (by decide) _ (fun ⟨b1, b2, b3, b4⟩ => ⟨b1, b2, b3, b4.below (below_allocI _)⟩), h9.keep (by decide) (by decide) _ (fun ⟨b1, b2, b3⟩ => ⟨b1, b2, keep_block (below_allocI _) b3 (lt_of_block b3)⟩), h10.keep (by decide) (by decide) _ (fun ⟨b1, b2, b3, b4⟩ => ⟨b1, b2, b3, b4.below (below_allocI _)⟩), hA106.keep (by decide), hA61.keep (by decide), hA1211.keep (by decide), Apart.newi (by decide) (by decide) (fun h4l _ a' b' n' m' c' d' e1 e2 => by cases e1; exact NEW h4l b' m' d' e2)⟩
            simp only [upd]
            rfl
          case sTAGX_2 =>
            intro listed bb u hsz hn hwt hinv
            obtain ⟨x, rfl, hU, hC9, hA9, hFin, h1, h6, h9, h10, hA106, hA61, hA1211, hAp⟩ := hinv
            have n9 : listed.getD 13 false = false := (hA9 2 (by decide)).no hn
            have hC := hC9 n9
            simp only [putsX, Act.put, List.setIfInBounds_toArray, List.set_cons_zero, List.set_cons_succ]
            go_wp2_with fail
            refine stepQ_normal ⟨trivial, upd x 2 (.pointer (some ⟨P, 0, none⟩)), ?_, hU.step (fun _ h => Option.some.inj h), (fun _ => hC), hA9.keep (by decide), FromW.no n9 (by decide), h1.keep (by decide) (by decide) _ id, h6.keep (by decide) (by decide) _ id, h9.keep (by decide) (by decide) _ id, h10.keep (by decide) (by decide) _ id, hA106.keep (by decide), hA61.keep (by decide), hA1211.keep (by decide), hAp.keep (by decide) (by decide) (by decide) _⟩
            simp only [upd]
            rfl
          case sTAGX_3 =>
            intro listed bb u hsz hn hwt hinv
            obtain ⟨x, rfl, hU, hC9, hA9, hFin, h1, h6, h9, h10, hA106, hA61, hA1211, hAp⟩ := hinv
            have n9 : listed.getD 13 false = false := (hA9 3 (by decide)).no hn
            have hC := hC9 n9
            have f2 := Lib.hid (hU 2 _ rfl (hwt 2 (by kernel_rfl)))
            simp only [putsX, Act.put, List.setIfInBounds_toArray, List.set_cons_zero, List.set_cons_succ]
            rw [f2.out]
            go_wp2_with fail
            refine stepQ_normal ⟨trivial, upd x 3 (.pointer (some ⟨P, 0, none⟩)), ?_, hU.step (fun _ h => Option.some.inj h), (fun _ => hC), hA9.keep (by decide), FromW.no n9 (by decide), h1.keep (by decide) (by decide) _ id, h6.keep (by decide) (by decide) _ id, h9.keep (by decide) (by decide) _ id, h10.keep (by decide) (by decide) _ id, hA106.keep (by decide), hA61.keep (by decide), hA1211.keep (by decide), hAp.keep (by decide) (by decide) (by decide) _⟩
            simp only [upd]
            simp only [f2.out]
            (try rfl)
          case sTAGX_4 =>
            intro listed bb u hsz hn hwt hinv
            obtain ⟨x, rfl, hU, hC9, hA9, hFin, h1, h6, h9, h10, hA106, hA61, hA1211, hAp⟩ := hinv
            have n9 : listed.getD 13 false = false := (hA9 4 (by decide)).no hn
            have hC := hC9 n9
            have f3 := Lib.hid (hU 3 _ rfl (hwt 3 (by kernel_rfl)))
            simp only [putsX, Act.put, List.setIfInBounds_toArray, List.set_cons_zero, List.set_cons_succ]
            rw [f3.out]
            go_wp2_with fail
            refine stepQ_normal ⟨trivial, upd x 4 (.pointer (some ⟨P, 1, none⟩)), ?_, hU.step (fun _ h => Option.some.inj h), (fun _ => hC), hA9.keep (by decide), FromW.no n9 (by decide), h1.keep (by decide) (by decide) _ id, h6.keep (by decide) (by decide) _ id, h9.keep (by decide) (by decide) _ id, h10.keep (by decide) (by decide) _ id, hA106.keep (by decide), hA61.keep (by decide), hA1211.keep (by decide), hAp.keep (by decide) (by decide) (by decide) _⟩
            simp only [upd]
            simp only [f3.out]
            (try rfl)
          case sTAGX_5 =>
            intro listed bb u hsz hn hwt hinv
            obtain ⟨x, rfl, hU, hC9, hA9, hFin, h1, h6, h9, h10, hA106, hA61, hA1211, hAp⟩ := hinv
            have n9 : listed.getD 13 false = false := (hA9 5 (by decide)).no hn
            have hC := hC9 n9
            have f4 := Lib.hid (hU 4 _ rfl (hwt 4 (by kernel_rfl)))
            simp only [putsX, Act.put, List.setIfInBounds_toArray, List.set_cons_zero, List.set_cons_succ]
            rw [f4.out]
            obtain ⟨d0, d1⟩ := cells2 (keep_block hC p5 (lt_of_block p5))
            go_wp2_with fail
            refine stepQ_normal ⟨trivial, upd x 5 (.slice a2 n2 c2), ?_, hU.step (fun _ h => Option.some.inj h), (fun _ => hC), hA9.keep (by decide), FromW.no n9 (by decide), h1.keep (by decide) (by decide) _ id, h6.keep (by decide) (by decide) _ id, h9.keep (by decide) (by decide) _ id, h10.keep (by decide) (by decide) _ id, hA106.keep (by decide), hA61.keep (by decide), hA1211.keep (by decide), hAp.keep (by decide) (by decide) (by decide) _⟩
            simp only [upd]
            simp only [f4.out]
            (try rfl)
          case sTAGX_6 =>
            intro listed bb u hsz hn hwt hinv
            obtain ⟨x, rfl, hU, hC9, hA9, hFin, h1, h6, h9, h10, hA106, hA61, hA1211, hAp⟩ := hinv
            have n9 : listed.getD 13 false = false := (hA9 6 (by decide)).no hn
            have hC := hC9 n9
            have f5 := Lib.hid (hU 5 _ rfl (hwt 5 (by kernel_rfl)))
            simp only [putsX, Act.put, List.setIfInBounds_toArray, List.set_cons_zero, List.set_cons_succ]
            rw [f5.out]
            obtain ⟨b2, fp, hown⟩ := h1 (hwt 1 (by kernel_rfl)) hn
            have FP := Lib.hid fp
            rw [FP.out]
            have hCs := hC.size
            have HLO := Lib.hid (hown.lo _ rfl)
            clear fp
            go_wp2_with (at_builtin; refine append_int rfl _ _ rfl w5.heap.size _ 0 [] rfl hown rfl a2 n2 c2 ac rfl HL2.out HNC2.out ((HR2.out).below hC) (by omega) hCs ?_)
            intro v' u' O2 hgrow hat
            try rw [List.nil_append] at O2
            obtain ⟨ad, cd, hv'⟩ := O2.shape
            rw [HL2.out] at hv'
            subst hv'
            have hC' := hC.grown hgrow hCs (fun j hj => by have := Option.some.inj hj; have h : w5.heap.size ≤ b2 := HLO.out.1; have h2 : b2 = j := this; omega)
            have N10 : listed.getD 10 false = false := hA106.no hn
            have K9 : listed.getD 9 false = true → (∃ bn, x 9 = .slice (some ⟨bn, 0, none⟩) 1 1 ∧ u.heap[bn]? = some (.cells #[.int .i64 t] 3)) → ∃ bn, x 9 = .slice (some ⟨bn, 0, none⟩) 1 1 ∧ u'.heap[bn]? = some (.cells #[.int .i64 t] 3) := fun h4l ⟨bn, e1, e2⟩ =>
              ⟨bn, e1, (hgrow.block bn (lt_of_block e2) (fun e => hAp (hwt 1 (by kernel_rfl)) h4l hn ⟨b2, 0, none⟩ ⟨bn, 0, none⟩ 0 1 0 1 FP.out e1 (Option.some.inj e).symm)).trans e2⟩
            clear hown hat
            go_wp2_with fail
            refine stepQ_normal ⟨trivial, upd x 6 (.slice ad n2 cd), ?_, hU.step (fun _ h => by cases h), (fun _ => hC'), hA9.keep (by decide), FromW.no n9 (by decide), FactW.call (by rw [hsz]; decide), FactW.new ⟨ad, cd, rfl, O2⟩, h9.keepL (by decide) (by decide) _ K9, FactW.no N10 (by decide) _, hA106.keep (by decide), Aft.new (hwt 1 (by kernel_rfl)), hA1211.keep (by decide), Apart.call (by rw [hsz]; decide)⟩
            simp only [upd]
            simp only [f5.out, FP.out]
            (try rfl)
          case sTAGX_7 =>
            intro listed bb u hsz hn hwt hinv
            obtain ⟨x, rfl, hU, hC9, hA9, hFin, h1, h6, h9, h10, hA106, hA61, hA1211, hAp⟩ := hinv
            have n9 : listed.getD 13 false = false := (hA9 7 (by decide)).no hn
            have hC := hC9 n9
            simp only [putsX, Act.put, List.setIfInBounds_toArray, List.set_cons_zero, List.set_cons_succ]
            go_wp2_with fail
            refine stepQ_normal ⟨trivial, upd x 7 (.pointer (some ⟨w.heap.size + 1, 0, none⟩)), ?_, hU.step (fun _ h => Option.some.inj h), (fun _ => hC), hA9.keep (by decide), FromW.no n9 (by decide), h1.keep (by decide) (by decide) _ id, h6.keep (by decide) (by decide) _ id, h9.keep (by decide) (by decide) _ id, h10.keep (by decide) (by decide) _ id, hA106.keep (by decide), hA61.keep (by decide), hA1211.keep (by decide), hAp.keep (by decide) (by decide) (by decide) _⟩
            simp only [upd]
            rfl
          case sTAGX_8 =>
            intro listed bb u hsz hn hwt hinv
            obtain ⟨x, rfl, hU, hC9, hA9, hFin, h1, h6, h9, h10, hA106, hA61, hA1211, hAp⟩ := hinv
            have n9 : listed.getD 13 false = false := (hA9 8 (by decide)).no hn
            have hC := hC9 n9
            have f7 := Lib.hid (hU 7 _ rfl (hwt 7 (by kernel_rfl)))
            simp only [putsX, Act.put, List.setIfInBounds_toArray, List.set_cons_zero, List.set_cons_succ]
            rw [f7.out]
            obtain ⟨e0, e1, e2, e3, e4⟩ := cells5 (keep_block hC q5 (lt_of_block q5))
            go_wp2_with fail
            refine stepQ_normal ⟨trivial, upd x 8 (.int .i64 t), ?_, hU.step (fun _ h => Option.some.inj h), (fun _ => hC), hA9.keep (by decide), FromW.no n9 (by decide), h1.keep (by decide) (by decide) _ id, h6.keep (by decide) (by decide) _ id, h9.keep (by decide) (by decide) _ id, h10.keep (by decide) (by decide) _ id, hA106.keep (by decide), hA61.keep (by decide), hA1211.keep (by decide), hAp.keep (by decide) (by decide) (by decide) _⟩
            simp only [upd]
            simp only [f7.out]
            (try rfl)
          case sTAGX_9 =>
            intro listed bb u hsz hn hwt hinv
            obtain ⟨x, rfl, hU, hC9, hA9, hFin, h1, h6, h9, h10, hA106, hA61, hA1211, hAp⟩ := hinv
            have n9 : listed.getD 13 false = false := (hA9 9 (by decide)).no hn
            have hC := hC9 n9
            have f8 := Lib.hid (hU 8 _ rfl (hwt 8 (by kernel_rfl)))
            simp only [putsX, Act.put, List.setIfInBounds_toArray, List.set_cons_zero, List.set_cons_succ]
            rw [f8.out]
            have NEW : listed.getD 1 false = true → listed.getD 6 false = false → ∀ (b : Addr) (n' c' : Nat), x 1 = .slice (some b) n' c' → b.block ≠ u.heap.size := fun h2l h6l b n' c' hx => by
              obtain ⟨bn, e1, e2⟩ := h1 h2l h6l
              rw [e1] at hx
              cases hx
              have h : bn < u.heap.size := (e2.lo _ rfl).2
              show bn ≠ u.heap.size
              omega
            go_wp2_with fail
            refine stepQ_normal ⟨trivial, upd x 9 (.slice (some ⟨u.heap.size, 0, none⟩) 1 1), ?_, hU.step (fun _ h => by cases h), (fun _ => hC.alloc hC.size _), hA9.keep (by decide), FromW.no n9 (by decide), h1.keep (by decide) (by decide) _ (fun ⟨b1, b2, b3⟩ => ⟨b1, b2, b3.below (below_allocI _)⟩), h6.keep (by decide) (by decide) _ (fun ⟨b1, b2, b3, b4⟩ => ⟨b1, b2, b3, b4.below (below_allocI _)⟩), FactW.new ⟨_, rfl, heap_alloc_new _ _⟩, h10.keep (by decide) (by decide) _ (fun ⟨b1, b2, b3, b4⟩ => ⟨b1, b2, b3, b4.below (below_allocI _)⟩), hA106.keep (by decide), hA61.keep (by decide), hA1211.keep (by decide), Apart.newj (by decide) (by decide) (fun h2l h6l a' b' n' m' c' d' e1 e2 => by cases e2; exact NEW h2l h6l a' n' c' e1)⟩
            simp only [upd]
            simp only [f8.out]
            (try rfl)
          case sTAGX_10 =>
            intro listed bb u hsz hn hwt hinv
            obtain ⟨x, rfl, hU, hC9, hA9, hFin, h1, h6, h9, h10, hA106, hA61, hA1211, hAp⟩ := hinv
            have n9 : listed.getD 13 false = false := (hA9 10 (by decide)).no hn
            have hC := hC9 n9
            simp only [putsX, Act.put, List.setIfInBounds_toArray, List.set_cons_zero, List.set_cons_succ]
            obtain ⟨ab, cb, fp, hown⟩ := h6 (hwt 6 (by kernel_rfl)) hn
            obtain ⟨bn, fb, hbn⟩ := h9 (hwt 9 (by kernel_rfl)) hn
            have FP := Lib.hid fp
            have FB := Lib.hid fb
            rw [FP.out, FB.out]
            have hCs := hC.size
            have HLO := Lib.hid hown.lo
            clear fp fb
            go_wp2_with (at_builtin; refine append_int rfl _ _ rfl w5.heap.size _ n2 ac rfl hown HL2.out (some ⟨bn, 0, none⟩) 1 1 [t] rfl rfl (fun h => by cases h) (one_int hbn) (by omega) hCs ?_)
            intro v' u' O2 hgrow hat
            obtain ⟨ad, cd, hv'⟩ := O2.shape
            rw [List.length_append, HL2.out, List.length_singleton, HM.out] at hv'
            subst hv'
            have hC' := hC.grown hgrow hCs (fun j hj => by obtain ⟨y', hy, hyj⟩ := slice_own hj; have := (HLO.out y' hy).1; omega)
            clear hown hbn hat
            go_wp2_with fail
            refine stepQ_normal ⟨trivial, upd x 10 (.slice ad m cd), ?_, hU.step (fun _ h => by cases h), (fun _ => hC'), hA9.keep (by decide), FromW.no n9 (by decide), FactW.gone (hwt 6 (by kernel_rfl)), FactW.call (by rw [hsz]; decide), FactW.call (by rw [hsz]; decide), FactW.new ⟨ad, cd, rfl, O2⟩, Aft.new (hwt 6 (by kernel_rfl)), hA61.keep (by decide), hA1211.keep (by decide), Apart.gone (hwt 6 (by kernel_rfl))⟩
            simp only [upd]
            simp only [FP.out, FB.out]
            (try rfl)
          case sTAGX_11 =>
            intro listed bb u hsz hn hwt hinv
            obtain ⟨x, rfl, hU, hC9, hA9, hFin, h1, h6, h9, h10, hA106, hA61, hA1211, hAp⟩ := hinv
            have n9 : listed.getD 13 false = false := (hA9 11 (by decide)).no hn
            have hC := hC9 n9
            have f0 := Lib.hid (hU 0 _ rfl (hwt 0 (by kernel_rfl)))
            simp only [putsX, Act.put, List.setIfInBounds_toArray, List.set_cons_zero, List.set_cons_succ]
            rw [f0.out]
            go_wp2_with fail
            refine stepQ_normal ⟨trivial, upd x 11 (.pointer (some ⟨P, 0, none⟩)), ?_, hU.step (fun _ h => Option.some.inj h), (fun _ => hC), hA9.keep (by decide), FromW.no n9 (by decide), h1.keep (by decide) (by decide) _ id, h6.keep (by decide) (by decide) _ id, h9.keep (by decide) (by decide) _ id, h10.keep (by decide) (by decide) _ id, hA106.keep (by decide), hA61.keep (by decide), hA1211.keep (by decide), hAp.keep (by decide) (by decide) (by decide) _⟩
            simp only [upd]
            simp only [f0.out]
            (try rfl)
          case sTAGX_12 =>
            intro listed bb u hsz hn hwt hinv
            obtain ⟨x, rfl, hU, hC9, hA9, hFin, h1, h6, h9, h10, hA106, hA61, hA1211, hAp⟩ := hinv
            have n9 : listed.getD 13 false = false := (hA9 12 (by decide)).no hn
            have hC := hC9 n9
            have f11 := Lib.hid (hU 11 _ rfl (hwt 11 (by kernel_rfl)))
            simp only [putsX, Act.put, List.setIfInBounds_toArray, List.set_cons_zero, List.set_cons_succ]
            rw [f11.out]
            go_wp2_with fail
            refine stepQ_normal ⟨trivial, upd x 12 (.pointer (some ⟨P, 1, none⟩)), ?_, hU.step (fun _ h => Option.some.inj h), (fun _ => hC), hA9.keep (by decide), FromW.no n9 (by decide), h1.keep (by decide) (by decide) _ id, h6.keep (by decide) (by decide) _ id, h9.keep (by decide) (by decide) _ id, h10.keep (by decide) (by decide) _ id, hA106.keep (by decide), hA61.keep (by decide), Aft.new (hwt 11 (by kernel_rfl)), hAp.keep (by decide) (by decide) (by decide) _⟩
            simp only [upd]
            simp only [f11.out]
            (try rfl)
          case sTAGX_13 =>
            intro listed bb u hsz hn hwt hinv
            obtain ⟨x, rfl, hU, hC9, hA9, hFin, h1, h6, h9, h10, hA106, hA61, hA1211, hAp⟩ := hinv
            have n9 : listed.getD 13 false = false := hn
            have hC := hC9 n9
            have f12 := Lib.hid (hU 12 _ rfl (hwt 12 (by kernel_rfl)))
            simp only [putsX, Act.put, List.setIfInBounds_toArray, List.set_cons_zero, List.set_cons_succ]
            rw [f12.out]
            obtain ⟨ab, cb, fp, o10⟩ := h10 (hwt 10 (by kernel_rfl)) hn
            have FP := Lib.hid fp
            rw [FP.out]
            have pp := keep_block hC p5 (lt_of_block p5)
            obtain ⟨x0', x1'⟩ := cells2 pp
            have k1 := thawed pp 1
            have hCs := hC.size
            have HFIN : Hid (∃ ab' cb', (u.setCell ⟨P, 1, none⟩ (.slice ab m cb)).heap[P]? = some (.cells #[.slice (some ⟨gb, 0, none⟩) n1 c1, .slice ab' m cb'] 33) ∧ OwnI base (.slice (some ⟨gb, 0, none⟩) n1 c1) (addL N la ⟨t, 1, x0, y0, z0⟩) (u.setCell ⟨P, 1, none⟩ (.slice ab m cb)) ∧ OwnI w5.heap.size (.slice ab' m cb') (ac ++ [t]) (u.setCell ⟨P, 1, none⟩ (.slice ab m cb)) ∧ Below B0 w (u.setCell ⟨P, 1, none⟩ (.slice ab m cb))) :=
              ⟨ab, cb, set_cells pp 1 _, ownI_same (HO5.out.below hC) (fun y hy => Below.heap_setCell _ _ _ _ (HNP.out y hy)), ownI_same o10 (fun y hy => Below.heap_setCell _ _ _ _ (by have := (o10.lo y hy).1; have := lt_of_block p5; show y.block ≠ P; omega)), (HB5.out.trans (hC.mono (by have := HB5.out.size; have := lt_of_block p5; omega))).setCell (by exact HBP.out) _⟩
            clear pp o10 fp
            go_wp2_with fail
            refine stepQ_normal ⟨trivial, upd x 13 undef, ?_, hU.step (fun _ h => by cases h), TillW.gone (by rw [hsz]; decide), (fun j hj => match j, hj with | 0, _ => Aft.new (hwt 0 (by kernel_rfl)) | 1, _ => Aft.new (hwt 1 (by kernel_rfl)) | 2, _ => Aft.new (hwt 2 (by kernel_rfl)) | 3, _ => Aft.new (hwt 3 (by kernel_rfl)) | 4, _ => Aft.new (hwt 4 (by kernel_rfl)) | 5, _ => Aft.new (hwt 5 (by kernel_rfl)) | 6, _ => Aft.new (hwt 6 (by kernel_rfl)) | 7, _ => Aft.new (hwt 7 (by kernel_rfl)) | 8, _ => Aft.new (hwt 8 (by kernel_rfl)) | 9, _ => Aft.new (hwt 9 (by kernel_rfl)) | 10, _ => Aft.new (hwt 10 (by kernel_rfl)) | 11, _ => Aft.new (hA1211 (hwt 12 (by kernel_rfl))) | 12, _ => Aft.new (hwt 12 (by kernel_rfl)) | j + 13, hj => absurd hj (by omega)), (fun _ => HFIN.out), FactW.gone (hwt 6 (by kernel_rfl)), FactW.gone (hwt 10 (by kernel_rfl)), FactW.gone (hwt 10 (by kernel_rfl)), FactW.call (by rw [hsz]; decide), hA106.keep (by decide), hA61.keep (by decide), hA1211.keep (by decide), Apart.gone (hwt 6 (by kernel_rfl))⟩
            simp only [upd]
            simp only [f12.out, FP.out]
            (try rfl)
        case heTAGX =>
          intro listed x u hall hU hS
          obtain ⟨ab, cb, pf, o1, o2, hb⟩ := hS.2.2.1 (hall 13 (by decide))
          obtain ⟨x0', x1'⟩ := cells2 pf
          have k1 := thawed pf 1
          simp only [putsX, Act.put, List.setIfInBounds_toArray, List.set_cons_zero, List.set_cons_succ]
          by_cases h5 : m ≤ 4
          · have t6 : decide ((4 : Int) < (m : Int)) = false := decide_eq_false (by omega)
            have t7 : decide (4 < m) = false := decide_eq_false (by omega)
            have HAD : Hid (addA ac ⟨t, 1, x0, y0, z0⟩ = ac ++ [t]) := by show _ = _; rw [HAC.out, if_neg (by omega)]
            have HN2 : Hid (m = n2') := by have h := HPN.out; rw [HAD.out, List.length_append, HL2.out, List.length_singleton, HM.out] at h; exact h
            have PF := Lib.hid pf
            have OO1 := Lib.hid o1
            have OO2 := Lib.hid o2
            have HBF := Lib.hid hb
            clear h5 pf o1 o2 hb k1
            go_wp2_with fail
            (try simp only [Exit.inBlock, Exit.then])
            refine bodyPost_ret (v := .tuple #[]) (by simp [results, Try.results70]) rfl ⟨rfl, ab, cb, ?_, OO1.out, by rw [HAD.out]; exact OO2.out.row, OO2.out.nil, HBF.out⟩
            rw [← HN2.out]
            exact PF.out
          · have t6 : decide ((4 : Int) < (m : Int)) = true := decide_eq_true (by omega)
            have t7 : decide (4 < m) = true := decide_eq_true (by omega)
            have HAD : Hid (addA ac ⟨t, 1, x0, y0, z0⟩ = (ac ++ [t]).tail) := by show _ = _; rw [HAC.out, if_pos (by omega), List.drop_one]
            have hlen : (ac ++ [t]).length = m := by rw [List.length_append, HL2.out, List.length_singleton, HM.out]
            have HN2 : Hid (m - 1 = n2') := by have h := HPN.out; rw [HAD.out, List.length_tail, hlen] at h; exact h
            obtain ⟨rb, rfl, _⟩ := o2.get (k := 0) (by rw [hlen]; omega)
            have hmc : m ≤ cb := by
              rcases o2.2 with ⟨hv, _⟩ | ⟨b, cap, cur, hv, hB, hh, h7, _⟩
              · cases hv
              · cases hv
                rw [← hlen]
                exact h7
            have hm1 : 1 ≤ m := by omega
            have hcb0 : ¬ (cb - 1 = 0) := by omega
            have hcb1 : ¬ (cb = 1) := by omega
            have hcb2 : 1 < cb := by omega
            have hcb3 : ¬ (cb ≤ 1) := by omega
            have OO1 := Lib.hid o1
            have OO2 := Lib.hid o2
            have HBF := Lib.hid hb
            have HRB : Hid (rb ≠ P) := by have := (o2.lo _ rfl).1; have := lt_of_block p5; show rb ≠ P; have h9 : w5.heap.size ≤ rb := (o2.lo _ rfl).1; omega
            clear h5 o1 o2 hb
            go_wp2_with fail
            (try simp only [Exit.inBlock, Exit.then])
            refine bodyPost_ret (v := .tuple #[]) (by simp [results, Try.results70]) rfl ⟨rfl, some ⟨rb, 1, none⟩, cb - 1, ?_, ownI_same OO1.out (fun y hy => Below.heap_setCell _ _ _ _ (HNP.out y hy)), by rw [HAD.out]; exact RowI.setOff OO2.out.tailRowR (fun y hy => by cases hy; exact HRB.out) _, (fun h => by cases h), HBF.out.setCell (by exact HBP.out) _⟩
            rw [← HN2.out]
            exact set_cells pf 1 _

end Go.Proofs.Ythplhjdfajhmpaa

namespace Go.Proofs.Ythplhjdfajhmpaa
open Go.RowKit Go.PlainAid

set_option linter.unusedVariables false

set_option maxHeartbeats 32000000 in
set_option maxRecDepth 100000 in
theorem specReadyAfter_is (g0 B g2 g3 : Int) (N : Nat) (hN : bankN g0 B g2 g3 = (N : Int)) (a1 : Option Addr) (n1 c1 : Nat) (la : List Int) (a2 : Option Addr) (n2 c2 : Nat) (ac : List Int) (e : Ev) (l' a' : List Int) (n2' : Nat) (hl' : rdL g0 B g2 g3 N la ac e = l') (ha' : rdA g0 B g2 g3 N la ac e = a') (hn2' : a'.length = n2') (hl1 : la.length = n1) (h1 : n1 ≤ 3000000) (hl2 : ac.length = n2) (h2 : n2 ≤ 3000000) (hnc1 : a1 = none → c1 = 0) (hnc2 : a2 = none → c2 = 0) (w : World) (hr1 : RowI w a1 la) (hr2 : RowI w a2 ac) :
    Calls Try.prog 32 #[.agg #[.int .i64 g0, .int .i64 B, .int .i64 g2, .int .i64 g3], .agg #[.slice a1 n1 c1, .slice a2 n2 c2], .agg #[.int .i64 e.t, .int .i64 e.k, .int .i64 e.x, .int .i64 e.y, .int .i64 e.z]] w (GivesRd n1 n2' l' a' w) := by
  obtain ⟨w1, hw1⟩ : ∃ u, (((w.alloc (.cells #[.int .i64 g0, .int .i64 B, .int .i64 g2, .int .i64 g3] 25)).alloc (.cells #[.slice a1 n1 c1, .slice a2 n2 c2] 33)).alloc (.cells #[.int .i64 e.t, .int .i64 e.k, .int .i64 e.x, .int .i64 e.y, .int .i64 e.z] 41)).alloc (.cells #[.slice none 0 0, .slice none 0 0] 33) = u := ⟨_, rfl⟩
  have HB1 : Hid (Below w.heap.size w w1) := by subst hw1; exact ((((Below.refl _ _).alloc (by simp) _).alloc (by simp) _).alloc (by simp; omega) _).alloc (by simp; omega) _
  have g1 : w1.heap[w.heap.size]? = some (.cells #[.int .i64 g0, .int .i64 B, .int .i64 g2, .int .i64 g3] 25) := by subst hw1; exact box4_0 _ _ _ _ _
  have r1 : w1.heap[w.heap.size + 1]? = some (.cells #[.slice a1 n1 c1, .slice a2 n2 c2] 33) := by subst hw1; exact box4_1 _ _ _ _ _
  have q1 : w1.heap[w.heap.size + 1 + 1]? = some (.cells #[.int .i64 e.t, .int .i64 e.k, .int .i64 e.x, .int .i64 e.y, .int .i64 e.z] 41) := by subst hw1; exact box4_2 _ _ _ _ _
  have t1 : w1.heap[w.heap.size + 1 + 1 + 1]? = some (.cells #[.slice none 0 0, .slice none 0 0] 33) := by subst hw1; exact box4_3 _ _ _ _ _
  have HS1 : Hid (w.heap.size + 1 + 1 + 1 < w1.heap.size) := lt_of_block t1
  have HR1 := Lib.hid (hr1.below HB1.out)
  have HR2 := Lib.hid (hr2.below HB1.out)
  have HL1 := Lib.hid hl1
  have HL2 := Lib.hid hl2
  have HNC1 := Lib.hid hnc1
  have HNC2 := Lib.hid hnc2
  have HN := Lib.hid hN
  have HL' := Lib.hid hl'
  have HA' := Lib.hid ha'
  have HN2' := Lib.hid hn2'
  clear hr1 hr2 hl1 hl2 hnc1 hnc2 hN hl' ha' hn2'
  obtain ⟨c0, c1', c2', c3⟩ := cells4 g1
  obtain ⟨d0, d1⟩ := cells2 r1
  obtain ⟨e0, e1, e2, e3, e4⟩ := cells5 q1
  go_enter Try.func32, Try.ntmps32
  go_wp2_with fail
  refine (specCopyR_is a1 n1 c1 la a2 n2 c2 ac HL1.out h1 HL2.out h2 HNC1.out HNC2.out _ HR1.out HR2.out).mono ?_
  rintro e' w2 ⟨aa, ca, ab, cb, rfl, oa, ob, ap, hb2⟩
  have hb3 : Below w2.heap.size w2 (w2.alloc (.cells #[.slice aa n1 ca, .slice ab n2 cb] 33)) := (Below.refl _ _).alloc (Nat.le_refl _) _
  have HAP := Lib.hid ap
  have HS2 : Hid (w1.heap.size ≤ w2.heap.size) := hb2.size
  have HNE : Hid (∀ x, aa = some x → x.block ≠ w2.heap.size) := fun x hx => by have := (oa.lo x hx).2; omega
  have ST : Hid ((w2.alloc (.cells #[.slice aa n1 ca, .slice ab n2 cb] 33)).heap[w.heap.size]? = some (.cells #[.int .i64 g0, .int .i64 B, .int .i64 g2, .int .i64 g3] 25) ∧ (w2.alloc (.cells #[.slice aa n1 ca, .slice ab n2 cb] 33)).heap[w.heap.size + 1]? = some (.cells #[.slice a1 n1 c1, .slice a2 n2 c2] 33) ∧ (w2.alloc (.cells #[.slice aa n1 ca, .slice ab n2 cb] 33)).heap[w.heap.size + 1 + 1]? = some (.cells #[.int .i64 e.t, .int .i64 e.k, .int .i64 e.x, .int .i64 e.y, .int .i64 e.z] 41) ∧ (w2.alloc (.cells #[.slice aa n1 ca, .slice ab n2 cb] 33)).heap[w.heap.size + 1 + 1 + 1]? = some (.cells #[.slice none 0 0, .slice none 0 0] 33) ∧ (w2.alloc (.cells #[.slice aa n1 ca, .slice ab n2 cb] 33)).heap[w2.heap.size]? = some (.cells #[.slice aa n1 ca, .slice ab n2 cb] 33) ∧ OwnI w1.heap.size (.slice aa n1 ca) la (w2.alloc (.cells #[.slice aa n1 ca, .slice ab n2 cb] 33)) ∧ OwnI w1.heap.size (.slice ab n2 cb) ac (w2.alloc (.cells #[.slice aa n1 ca, .slice ab n2 cb] 33)) ∧ RowI (w2.alloc (.cells #[.slice aa n1 ca, .slice ab n2 cb] 33)) a1 la ∧ RowI (w2.alloc (.cells #[.slice aa n1 ca, .slice ab n2 cb] 33)) a2 ac ∧ Below w1.heap.size w1 (w2.alloc (.cells #[.slice aa n1 ca, .slice ab n2 cb] 33))) :=
    have k := fun (i : Nat) (o : Obj) (h : w1.heap[i]? = some o) => keep_block hb3 (keep_block hb2 h (lt_of_block h)) (by have := lt_of_block h; have := hb2.size; omega)
    ⟨k _ _ g1, k _ _ r1, k _ _ q1, k _ _ t1, heap_alloc_new _ _, oa.below hb3, ob.below hb3, (HR1.out.below hb2).below hb3, (HR2.out.below hb2).below hb3, hb2.trans (hb3.mono hb2.size)⟩
  clear hb2 hb3 oa ob ap c0 c1' c2' c3 d0 d1 e0 e1 e2 e3 e4
  obtain ⟨c0, c1', c2', c3⟩ := cells4 ST.out.1
  obtain ⟨d0, d1⟩ := cells2 ST.out.2.1
  go_wp2_with fail
  clear c0 c1' c2' c3 d0 d1
  generalize (w2.alloc (.cells #[.slice aa n1 ca, .slice ab n2 cb] 33)) = w3 at ST ⊢
  obtain ⟨g3', r3, q3, t3, s3, ho, ha, hx, hy, hc⟩ := ST.out
  have HO3 := Lib.hid ho
  have HA3 := Lib.hid ha
  have HX3 := Lib.hid hx
  have HY3 := Lib.hid hy
  have HC3 := Lib.hid hc
  clear ST ho ha hx hy hc
  obtain ⟨c0, c1', c2', c3⟩ := cells4 g3'
  obtain ⟨d0, d1⟩ := cells2 r3
  obtain ⟨e0, e1, e2, e3, e4⟩ := cells5 q3
  by_cases hR : RdOk g0 B g2 g3 N la ac
  case neg =>
    have KR := Lib.hid (decide_eq_false hR)
    have HNO : Hid (¬ CanAdd g0 B g2 g3 N la ac e) := fun h => hR h.1
    have HE1 : Hid (l' = la) := by show _ = _; rw [← HL'.out]; exact if_neg HNO.out
    have HE2 : Hid (a' = ac) := by show _ = _; rw [← HA'.out]; exact if_neg HNO.out
    have HM : Hid (n2 = n2') := by show _ = _; rw [← HN2'.out, HE2.out]; exact HL2.out.symm
    obtain rfl := HM.out
    clear hR
    refine (specReadyOk_is g0 B g2 g3 N HN.out a1 n1 c1 la a2 n2 c2 ac _ KR.out HL1.out (by omega) HL2.out (by omega) _ HX3.out HY3.out).mono ?_
    rintro e' w4 ⟨rfl, hb⟩
    have g4' := keep_block hb g3' (lt_of_block g3')
    have r4 := keep_block hb r3 (lt_of_block r3)
    have q4 := keep_block hb q3 (lt_of_block q3)
    have t4 := keep_block hb t3 (lt_of_block t3)
    have s4 := keep_block hb s3 (lt_of_block s3)
    have HO4 := Lib.hid (HO3.out.below hb)
    have HA4 := Lib.hid (HA3.out.below hb)
    have HX4 := Lib.hid (HX3.out.below hb)
    have HY4 := Lib.hid (HY3.out.below hb)
    have HC4 : Hid (Below w1.heap.size w1 w4) := HC3.out.trans (hb.mono HC3.out.size)
    clear hb
    clear c0 c1' c2' c3 d0 d1 e0 e1 e2 e3 e4
    obtain ⟨y0, y1⟩ := cells2 s4
    obtain ⟨x0, x1⟩ := cells2 t4
    have f0 := thawed t4 0
    have f1 := thawed t4 1
    go_wp2_with fail
    (try simp only [Exit.inBlock, Exit.then])
    refine bodyPost_ret (v := .agg #[.slice aa n1 ca, .slice ab n2 cb]) (by simp [results, Try.results32, go_sem, x0, x1]) rfl ?_
    rw [HE1.out, HE2.out]
    have hs := HS1.out
    refine ⟨aa, ca, ab, cb, rfl, ?_, ?_, HAP.out, ?_⟩
    · refine OwnI.mono (B := w1.heap.size) ?_ (by omega)
      repeat' (first | exact HO4.out | refine ownI_set (by simp; omega) ?_ _)
    · refine OwnI.mono (B := w1.heap.size) ?_ (by omega)
      repeat' (first | exact HA4.out | refine ownI_set (by simp; omega) ?_ _)
    · have hB := HB1.out.trans (HC4.out.mono HB1.out.size)
      repeat' (first | exact hB | refine Below.drew ?_ | refine Below.setCell ?_ (by simp <;> omega) _)
  have KR := Lib.hid (decide_eq_true hR)
  refine (specReadyOk_is g0 B g2 g3 N HN.out a1 n1 c1 la a2 n2 c2 ac _ KR.out HL1.out (by omega) HL2.out (by omega) _ HX3.out HY3.out).mono ?_
  rintro e' w4 ⟨rfl, hb⟩
  have g4' := keep_block hb g3' (lt_of_block g3')
  have r4 := keep_block hb r3 (lt_of_block r3)
  have q4 := keep_block hb q3 (lt_of_block q3)
  have t4 := keep_block hb t3 (lt_of_block t3)
  have s4 := keep_block hb s3 (lt_of_block s3)
  have HO4 := Lib.hid (HO3.out.below hb)
  have HA4 := Lib.hid (HA3.out.below hb)
  have HX4 := Lib.hid (HX3.out.below hb)
  have HY4 := Lib.hid (HY3.out.below hb)
  have HC4 : Hid (Below w1.heap.size w1 w4) := HC3.out.trans (hb.mono HC3.out.size)
  clear hb
  clear c0 c1' c2' c3 d0 d1 e0 e1 e2 e3 e4
  by_cases hC : CmdIn g0 B g2 g3 e
  case neg =>
    have KC := Lib.hid (decide_eq_false hC)
    have HNO : Hid (¬ CanAdd g0 B g2 g3 N la ac e) := fun h => hC h.2.1
    have HE1 : Hid (l' = la) := by show _ = _; rw [← HL'.out]; exact if_neg HNO.out
    have HE2 : Hid (a' = ac) := by show _ = _; rw [← HA'.out]; exact if_neg HNO.out
    have HM : Hid (n2 = n2') := by show _ = _; rw [← HN2'.out, HE2.out]; exact HL2.out.symm
    obtain rfl := HM.out
    clear hR hC
    obtain ⟨c0, c1', c2', c3⟩ := cells4 g4'
    obtain ⟨d0, d1⟩ := cells2 r4
    obtain ⟨e0, e1, e2, e3, e4⟩ := cells5 q4
    go_wp2_with fail
    refine (specCommandOk_is g0 B g2 g3 e.k e.x e.y e.z _ KC.out _).mono ?_
    rintro e' w5 ⟨rfl, hb⟩
    have g5' := keep_block hb g4' (lt_of_block g4')
    have r5 := keep_block hb r4 (lt_of_block r4)
    have q5 := keep_block hb q4 (lt_of_block q4)
    have t5 := keep_block hb t4 (lt_of_block t4)
    have s5 := keep_block hb s4 (lt_of_block s4)
    have HO5 := Lib.hid (HO4.out.below hb)
    have HA5 := Lib.hid (HA4.out.below hb)
    have HX5 := Lib.hid (HX4.out.below hb)
    have HY5 := Lib.hid (HY4.out.below hb)
    have HC5 : Hid (Below w1.heap.size w1 w5) := HC4.out.trans (hb.mono HC4.out.size)
    clear hb
    clear c0 c1' c2' c3 d0 d1 e0 e1 e2 e3 e4
    obtain ⟨y0, y1⟩ := cells2 s5
    obtain ⟨x0, x1⟩ := cells2 t5
    have f0 := thawed t5 0
    have f1 := thawed t5 1
    go_wp2_with fail
    (try simp only [Exit.inBlock, Exit.then])
    refine bodyPost_ret (v := .agg #[.slice aa n1 ca, .slice ab n2 cb]) (by simp [results, Try.results32, go_sem, x0, x1]) rfl ?_
    rw [HE1.out, HE2.out]
    have hs := HS1.out
    refine ⟨aa, ca, ab, cb, rfl, ?_, ?_, HAP.out, ?_⟩
    · refine OwnI.mono (B := w1.heap.size) ?_ (by omega)
      repeat' (first | exact HO5.out | refine ownI_set (by simp; omega) ?_ _)
    · refine OwnI.mono (B := w1.heap.size) ?_ (by omega)
      repeat' (first | exact HA5.out | refine ownI_set (by simp; omega) ?_ _)
    · have hB := HB1.out.trans (HC5.out.mono HB1.out.size)
      repeat' (first | exact hB | refine Below.drew ?_ | refine Below.setCell ?_ (by simp <;> omega) _)
  have KC := Lib.hid (decide_eq_true hC)
  have HRD := Lib.hid hR
  have HCI := Lib.hid hC
  clear hR hC
  obtain ⟨c0, c1', c2', c3⟩ := cells4 g4'
  obtain ⟨d0, d1⟩ := cells2 r4
  obtain ⟨e0, e1, e2, e3, e4⟩ := cells5 q4
  go_wp2_with fail
  refine (specCommandOk_is g0 B g2 g3 e.k e.x e.y e.z _ KC.out _).mono ?_
  rintro e' w5 ⟨rfl, hb⟩
  have g5' := keep_block hb g4' (lt_of_block g4')
  have r5 := keep_block hb r4 (lt_of_block r4)
  have q5 := keep_block hb q4 (lt_of_block q4)
  have t5 := keep_block hb t4 (lt_of_block t4)
  have s5 := keep_block hb s4 (lt_of_block s4)
  have HO5 := Lib.hid (HO4.out.below hb)
  have HA5 := Lib.hid (HA4.out.below hb)
  have HX5 := Lib.hid (HX4.out.below hb)
  have HY5 := Lib.hid (HY4.out.below hb)
  have HC5 : Hid (Below w1.heap.size w1 w5) := HC4.out.trans (hb.mono HC4.out.size)
  clear hb
  clear c0 c1' c2' c3 d0 d1 e0 e1 e2 e3 e4
  by_cases hT : 0 ≤ e.t ∧ e.t ≤ 1000000
  case neg =>
    have KI := Lib.hid (decide_eq_false hT)
    have HNO : Hid (¬ CanAdd g0 B g2 g3 N la ac e) := fun h => hT h.2.2.1
    have HE1 : Hid (l' = la) := by show _ = _; rw [← HL'.out]; exact if_neg HNO.out
    have HE2 : Hid (a' = ac) := by show _ = _; rw [← HA'.out]; exact if_neg HNO.out
    have HM : Hid (n2 = n2') := by show _ = _; rw [← HN2'.out, HE2.out]; exact HL2.out.symm
    obtain rfl := HM.out
    clear hT
    obtain ⟨c0, c1', c2', c3⟩ := cells4 g5'
    obtain ⟨d0, d1⟩ := cells2 r5
    obtain ⟨e0, e1, e2, e3, e4⟩ := cells5 q5
    go_wp2_with fail
    refine (specIn_is _ _ _ _ KI.out _).mono ?_
    rintro e' w6 ⟨rfl, rfl⟩
    obtain ⟨y0, y1⟩ := cells2 s5
    obtain ⟨x0, x1⟩ := cells2 t5
    have f0 := thawed t5 0
    have f1 := thawed t5 1
    go_wp2_with fail
    (try simp only [Exit.inBlock, Exit.then])
    refine bodyPost_ret (v := .agg #[.slice aa n1 ca, .slice ab n2 cb]) (by simp [results, Try.results32, go_sem, x0, x1]) rfl ?_
    rw [HE1.out, HE2.out]
    have hs := HS1.out
    refine ⟨aa, ca, ab, cb, rfl, ?_, ?_, HAP.out, ?_⟩
    · refine OwnI.mono (B := w1.heap.size) ?_ (by omega)
      repeat' (first | exact HO5.out | refine ownI_set (by simp; omega) ?_ _)
    · refine OwnI.mono (B := w1.heap.size) ?_ (by omega)
      repeat' (first | exact HA5.out | refine ownI_set (by simp; omega) ?_ _)
    · have hB := HB1.out.trans (HC5.out.mono HB1.out.size)
      repeat' (first | exact hB | refine Below.drew ?_ | refine Below.setCell ?_ (by simp <;> omega) _)
  have KI := Lib.hid (decide_eq_true hT)
  have HTI := Lib.hid hT
  clear hT
  obtain ⟨c0, c1', c2', c3⟩ := cells4 g5'
  obtain ⟨d0, d1⟩ := cells2 r5
  obtain ⟨e0, e1, e2, e3, e4⟩ := cells5 q5
  go_wp2_with fail
  refine (specIn_is _ _ _ _ KI.out _).mono ?_
  rintro e' w6 ⟨rfl, rfl⟩
  have HKK : Hid (1 ≤ e.k ∧ e.k ≤ 9) := HCI.out.1.1
  have HXX : Hid (e.k ≤ 5 → 0 ≤ e.x ∧ e.x < (N : Int)) := fun _ => ad_bank HN.out HCI.out.2
  have HN9 : Hid (n1 = 9 * (N + 1)) := HL1.out.symm.trans HRD.out.2.1
  have HN4 : Hid (n2 ≤ 4) := by have := HRD.out.2.2.1; have := HL2.out; show _ ≤ _; omega
  have hn24 : n2 ≤ 4 := HN4.out
  have HLAST : Hid (0 < n2 → ∃ b off, a2 = some ⟨b, off, none⟩ ∧ w5.cell? ⟨b, off + (n2 - 1), none⟩ = some (.int .i64 (ac.getD (n2 - 1) 0))) := fun h0 => by
    obtain ⟨b, off, hb, hc⟩ := HY5.out.at (k := n2 - 1) (by rw [HL2.out]; omega)
    exact ⟨b, off, hb, hc⟩
  have ADD : Hid (¬ (e.k = 1 ∧ 0 < n2 ∧ e.t ≤ ac.getD (n2 - 1) 0) → l' = addL N la e ∧ a' = addA ac e) := fun h => by
    have hcan : CanAdd g0 B g2 g3 N la ac e := ⟨HRD.out, HCI.out, HTI.out, by rw [HL2.out]; exact h⟩
    exact ⟨by rw [← HL'.out]; exact if_pos hcan, by rw [← HA'.out]; exact if_pos hcan⟩
  obtain ⟨m2, hm2⟩ : ∃ m2, (addA ac e).length = m2 := ⟨_, rfl⟩
  have HM2 := Lib.hid hm2
  have HM4 : Hid (m2 ≤ 5) := by
    show _ ≤ _
    rw [← hm2]
    unfold addA
    have := HL2.out
    split
    · split <;> simp <;> omega
    · omega
  have HLA : Hid ((addL N la e).length = n1) := by show _ = _; unfold addL; rw [List.length_set]; exact HL1.out
  clear hm2
  obtain ⟨c0, c1', c2', c3⟩ := cells4 g5'
  obtain ⟨d0, d1⟩ := cells2 r5
  obtain ⟨e0, e1, e2, e3, e4⟩ := cells5 q5
  by_cases hk : e.k = 1
  case neg =>
    have tk : (e.k == 1) = false := by simp [hk]
    have HEE := Lib.hid (ADD.out (fun h => hk h.1))
    have HE1 : Hid (l' = addL N la e) := HEE.out.1
    have HE2 : Hid (a' = addA ac e) := HEE.out.2
    obtain rfl : m2 = n2' := by rw [← HM2.out, ← HE2.out]; exact HN2'.out
    clear hk
    have ze0 := fun u : Later w5 => u.cell e0
    have ze1 := fun u : Later w5 => u.cell e1
    have ze2 := fun u : Later w5 => u.cell e2
    have ze3 := fun u : Later w5 => u.cell e3
    have ze4 := fun u : Later w5 => u.cell e4
    have zd0 := fun u : Later w5 => u.cell d0
    have zd1 := fun u : Later w5 => u.cell d1
    go_wp2_with fail
    refine wp_region_later (by kernel_rfl) (by kernel_rfl) ?_
    repeat (go_big_quiet_step (fail))
    refine wpQuiet_nil ?_
    rintro w6 ⟨zz, hz⟩
    have hb : Below w5.heap.size w5 w6 := hz ▸ zz.ok
    clear ze0 ze1 ze2 ze3 ze4 zd0 zd1
    have g6' := keep_block hb g5' (lt_of_block g5')
    have r6 := keep_block hb r5 (lt_of_block r5)
    have q6 := keep_block hb q5 (lt_of_block q5)
    have t6 := keep_block hb t5 (lt_of_block t5)
    have s6 := keep_block hb s5 (lt_of_block s5)
    have HO6 := Lib.hid (HO5.out.below hb)
    have HA6 := Lib.hid (HA5.out.below hb)
    have HX6 := Lib.hid (HX5.out.below hb)
    have HY6 := Lib.hid (HY5.out.below hb)
    have HC6 : Hid (Below w1.heap.size w1 w6) := HC5.out.trans (hb.mono HC5.out.size)
    clear hb hz zz
    clear c0 c1' c2' c3 d0 d1 e0 e1 e2 e3 e4
    obtain ⟨y0, y1⟩ := cells2 s6
    obtain ⟨c0, c1', c2', c3⟩ := cells4 g6'
    obtain ⟨e0, e1, e2, e3, e4⟩ := cells5 q6
    have HDO := Lib.hid (specDoR_is (B0 := w1.heap.size) (P := w2.heap.size) (n2' := m2) (y0 := e.y) (z0 := e.z) HN.out HKK.out HXX.out HL1.out HN9.out HL2.out HN4.out HM2.out s6 HO6.out HA6.out HAP.out HNE.out HS2.out (Nat.le_refl _))
    go_wp2_with fail
    refine HDO.out.mono ?_
    rintro e' w7 ⟨rfl, ad, cd, s7, o7, ro7, nil7, hb7⟩
    have t7 := keep_block hb7 t6 HS1.out
    have HC7 : Hid (Below w1.heap.size w1 w7) := HC6.out.trans hb7
    have HO7 := Lib.hid o7
    have HRO7 := Lib.hid ro7
    have HNI7 := Lib.hid nil7
    clear hb7 o7 ro7 nil7 y0 y1 c0 c1' c2' c3 e0 e1 e2 e3 e4 HDO g6' r6 q6 t6 s6 HO6 HA6 HX6 HY6 HC6
    obtain ⟨y0, y1⟩ := cells2 s7
    go_wp2_with fail
    refine (specCopyR_is aa n1 ca _ ad m2 cd _ HLA.out h1 HM2.out (by have := HM4.out; omega) HO7.out.nil HNI7.out _ HO7.out.row HRO7.out).mono ?_
    rintro e' w8 ⟨ae, ce, af, cf, rfl, oa, ob, ap, hb8⟩
    have t8 := keep_block hb8 t7 (lt_of_block t7)
    have HC8 : Hid (Below w1.heap.size w1 w8) := HC7.out.trans (hb8.mono HC7.out.size)
    have HO8 : Hid (OwnI w1.heap.size (.slice ae n1 ce) (addL N la e) w8) := oa.mono HC7.out.size
    have HA8 : Hid (OwnI w1.heap.size (.slice af m2 cf) (addA ac e) w8) := ob.mono HC7.out.size
    have HAP8 := Lib.hid ap
    clear hb8 oa ob ap y0 y1 s7 t7 HC7 HO7 HRO7 HNI7
    obtain ⟨x0, x1⟩ := cells2 t8
    have f0 := thawed t8 0
    have f1 := thawed t8 1
    go_wp2_with fail
    (try simp only [Exit.inBlock, Exit.then])
    refine bodyPost_ret (v := .agg #[.slice ae n1 ce, .slice af m2 cf]) (by simp [results, Try.results32, go_sem, x0, x1]) rfl ?_
    rw [HE1.out, HE2.out]
    have hs := HS1.out
    refine ⟨ae, ce, af, cf, rfl, ?_, ?_, HAP8.out, ?_⟩
    · refine OwnI.mono (B := w1.heap.size) ?_ (by omega)
      repeat' (first | exact HO8.out | refine ownI_set (by simp; omega) ?_ _)
    · refine OwnI.mono (B := w1.heap.size) ?_ (by omega)
      repeat' (first | exact HA8.out | refine ownI_set (by simp; omega) ?_ _)
    · have hB := HB1.out.trans (HC8.out.mono HB1.out.size)
      repeat' (first | exact hB | refine Below.drew ?_ | refine Below.setCell ?_ (by simp <;> omega) _)
  have tk : (e.k == 1) = true := by simp [hk]
  by_cases h0 : 0 < n2
  case neg =>
    have t0 : decide (0 < n2) = false := decide_eq_false h0
    have t0' : decide ((0 : Int) < (n2 : Int)) = false := decide_eq_false (by omega)
    have HEE := Lib.hid (ADD.out (fun h => h0 h.2.1))
    have HE1 : Hid (l' = addL N la e) := HEE.out.1
    have HE2 : Hid (a' = addA ac e) := HEE.out.2
    obtain rfl : m2 = n2' := by rw [← HM2.out, ← HE2.out]; exact HN2'.out
    clear hk h0
    have ze0 := fun u : Later w5 => u.cell e0
    have ze1 := fun u : Later w5 => u.cell e1
    have ze2 := fun u : Later w5 => u.cell e2
    have ze3 := fun u : Later w5 => u.cell e3
    have ze4 := fun u : Later w5 => u.cell e4
    have zd0 := fun u : Later w5 => u.cell d0
    have zd1 := fun u : Later w5 => u.cell d1
    go_wp2_with fail
    refine wp_region_later (by kernel_rfl) (by kernel_rfl) ?_
    repeat (go_big_quiet_step (fail))
    refine wpQuiet_nil ?_
    rintro w6 ⟨zz, hz⟩
    have hb : Below w5.heap.size w5 w6 := hz ▸ zz.ok
    clear ze0 ze1 ze2 ze3 ze4 zd0 zd1
    have g6' := keep_block hb g5' (lt_of_block g5')
    have r6 := keep_block hb r5 (lt_of_block r5)
    have q6 := keep_block hb q5 (lt_of_block q5)
    have t6 := keep_block hb t5 (lt_of_block t5)
    have s6 := keep_block hb s5 (lt_of_block s5)
    have HO6 := Lib.hid (HO5.out.below hb)
    have HA6 := Lib.hid (HA5.out.below hb)
    have HX6 := Lib.hid (HX5.out.below hb)
    have HY6 := Lib.hid (HY5.out.below hb)
    have HC6 : Hid (Below w1.heap.size w1 w6) := HC5.out.trans (hb.mono HC5.out.size)
    clear hb hz zz
    clear c0 c1' c2' c3 d0 d1 e0 e1 e2 e3 e4
    obtain ⟨y0, y1⟩ := cells2 s6
    obtain ⟨c0, c1', c2', c3⟩ := cells4 g6'
    obtain ⟨e0, e1, e2, e3, e4⟩ := cells5 q6
    have HDO := Lib.hid (specDoR_is (B0 := w1.heap.size) (P := w2.heap.size) (n2' := m2) (y0 := e.y) (z0 := e.z) HN.out HKK.out HXX.out HL1.out HN9.out HL2.out HN4.out HM2.out s6 HO6.out HA6.out HAP.out HNE.out HS2.out (Nat.le_refl _))
    go_wp2_with fail
    refine HDO.out.mono ?_
    rintro e' w7 ⟨rfl, ad, cd, s7, o7, ro7, nil7, hb7⟩
    have t7 := keep_block hb7 t6 HS1.out
    have HC7 : Hid (Below w1.heap.size w1 w7) := HC6.out.trans hb7
    have HO7 := Lib.hid o7
    have HRO7 := Lib.hid ro7
    have HNI7 := Lib.hid nil7
    clear hb7 o7 ro7 nil7 y0 y1 c0 c1' c2' c3 e0 e1 e2 e3 e4 HDO g6' r6 q6 t6 s6 HO6 HA6 HX6 HY6 HC6
    obtain ⟨y0, y1⟩ := cells2 s7
    go_wp2_with fail
    refine (specCopyR_is aa n1 ca _ ad m2 cd _ HLA.out h1 HM2.out (by have := HM4.out; omega) HO7.out.nil HNI7.out _ HO7.out.row HRO7.out).mono ?_
    rintro e' w8 ⟨ae, ce, af, cf, rfl, oa, ob, ap, hb8⟩
    have t8 := keep_block hb8 t7 (lt_of_block t7)
    have HC8 : Hid (Below w1.heap.size w1 w8) := HC7.out.trans (hb8.mono HC7.out.size)
    have HO8 : Hid (OwnI w1.heap.size (.slice ae n1 ce) (addL N la e) w8) := oa.mono HC7.out.size
    have HA8 : Hid (OwnI w1.heap.size (.slice af m2 cf) (addA ac e) w8) := ob.mono HC7.out.size
    have HAP8 := Lib.hid ap
    clear hb8 oa ob ap y0 y1 s7 t7 HC7 HO7 HRO7 HNI7
    obtain ⟨x0, x1⟩ := cells2 t8
    have f0 := thawed t8 0
    have f1 := thawed t8 1
    go_wp2_with fail
    (try simp only [Exit.inBlock, Exit.then])
    refine bodyPost_ret (v := .agg #[.slice ae n1 ce, .slice af m2 cf]) (by simp [results, Try.results32, go_sem, x0, x1]) rfl ?_
    rw [HE1.out, HE2.out]
    have hs := HS1.out
    refine ⟨ae, ce, af, cf, rfl, ?_, ?_, HAP8.out, ?_⟩
    · refine OwnI.mono (B := w1.heap.size) ?_ (by omega)
      repeat' (first | exact HO8.out | refine ownI_set (by simp; omega) ?_ _)
    · refine OwnI.mono (B := w1.heap.size) ?_ (by omega)
      repeat' (first | exact HA8.out | refine ownI_set (by simp; omega) ?_ _)
    · have hB := HB1.out.trans (HC8.out.mono HB1.out.size)
      repeat' (first | exact hB | refine Below.drew ?_ | refine Below.setCell ?_ (by simp <;> omega) _)
  have t0 : decide (0 < n2) = true := decide_eq_true h0
  have t0' : decide ((0 : Int) < (n2 : Int)) = true := decide_eq_true (by omega)
  have wm : IntKind.i64.wrap ((n2 : Int) - 1) = ((n2 - 1 : Nat) : Int) := by rw [IntWalk.i64_in _ (by omega)]; omega
  have hm1 : n2 - 1 < n2 := by omega
  obtain ⟨bb, off, rfl, hls⟩ := HLAST.out h0
  have zl := fun u : Later w5 => u.cell hls
  obtain ⟨p, hp⟩ : ∃ p, ac.getD (n2 - 1) 0 = p := ⟨_, rfl⟩
  simp only [hp] at zl
  have HP := Lib.hid hp
  clear hls hp
  by_cases hpt : e.t ≤ p
  case pos =>
    have tp : decide (e.t ≤ p) = true := decide_eq_true hpt
    have HNO : Hid (¬ CanAdd g0 B g2 g3 N la ac e) := fun h => h.2.2.2 ⟨hk, by rw [HL2.out]; exact h0, by rw [HL2.out, HP.out]; exact hpt⟩
    have HE1 : Hid (l' = la) := by show _ = _; rw [← HL'.out]; exact if_neg HNO.out
    have HE2 : Hid (a' = ac) := by show _ = _; rw [← HA'.out]; exact if_neg HNO.out
    have HM : Hid (n2 = n2') := by show _ = _; rw [← HN2'.out, HE2.out]; exact HL2.out.symm
    obtain rfl := HM.out
    clear hk hpt
    have ze0 := fun u : Later w5 => u.cell e0
    have ze1 := fun u : Later w5 => u.cell e1
    have ze2 := fun u : Later w5 => u.cell e2
    have ze3 := fun u : Later w5 => u.cell e3
    have ze4 := fun u : Later w5 => u.cell e4
    have zd0 := fun u : Later w5 => u.cell d0
    have zd1 := fun u : Later w5 => u.cell d1
    go_wp2_with fail
    refine wp_region_later (by kernel_rfl) (by kernel_rfl) ?_
    repeat (go_big_quiet_step (fail))
    refine wpQuiet_nil ?_
    rintro w6 ⟨zz, hz⟩
    have hb : Below w5.heap.size w5 w6 := hz ▸ zz.ok
    clear ze0 ze1 ze2 ze3 ze4 zd0 zd1
    have g6' := keep_block hb g5' (lt_of_block g5')
    have r6 := keep_block hb r5 (lt_of_block r5)
    have q6 := keep_block hb q5 (lt_of_block q5)
    have t6 := keep_block hb t5 (lt_of_block t5)
    have s6 := keep_block hb s5 (lt_of_block s5)
    have HO6 := Lib.hid (HO5.out.below hb)
    have HA6 := Lib.hid (HA5.out.below hb)
    have HX6 := Lib.hid (HX5.out.below hb)
    have HY6 := Lib.hid (HY5.out.below hb)
    have HC6 : Hid (Below w1.heap.size w1 w6) := HC5.out.trans (hb.mono HC5.out.size)
    clear hb hz zz
    clear c0 c1' c2' c3 d0 d1 e0 e1 e2 e3 e4
    obtain ⟨y0, y1⟩ := cells2 s6
    obtain ⟨x0, x1⟩ := cells2 t6
    have f0 := thawed t6 0
    have f1 := thawed t6 1
    go_wp2_with fail
    (try simp only [Exit.inBlock, Exit.then])
    refine bodyPost_ret (v := .agg #[.slice aa n1 ca, .slice ab n2 cb]) (by simp [results, Try.results32, go_sem, x0, x1]) rfl ?_
    rw [HE1.out, HE2.out]
    have hs := HS1.out
    refine ⟨aa, ca, ab, cb, rfl, ?_, ?_, HAP.out, ?_⟩
    · refine OwnI.mono (B := w1.heap.size) ?_ (by omega)
      repeat' (first | exact HO6.out | refine ownI_set (by simp; omega) ?_ _)
    · refine OwnI.mono (B := w1.heap.size) ?_ (by omega)
      repeat' (first | exact HA6.out | refine ownI_set (by simp; omega) ?_ _)
    · have hB := HB1.out.trans (HC6.out.mono HB1.out.size)
      repeat' (first | exact hB | refine Below.drew ?_ | refine Below.setCell ?_ (by simp <;> omega) _)
  have tp : decide (e.t ≤ p) = false := decide_eq_false hpt
  have HEE := Lib.hid (ADD.out (fun h => hpt (by rw [← HP.out]; exact h.2.2)))
  have HE1 : Hid (l' = addL N la e) := HEE.out.1
  have HE2 : Hid (a' = addA ac e) := HEE.out.2
  obtain rfl : m2 = n2' := by rw [← HM2.out, ← HE2.out]; exact HN2'.out
  clear hk hpt
  have ze0 := fun u : Later w5 => u.cell e0
  have ze1 := fun u : Later w5 => u.cell e1
  have ze2 := fun u : Later w5 => u.cell e2
  have ze3 := fun u : Later w5 => u.cell e3
  have ze4 := fun u : Later w5 => u.cell e4
  have zd0 := fun u : Later w5 => u.cell d0
  have zd1 := fun u : Later w5 => u.cell d1
  go_wp2_with fail
  refine wp_region_later (by kernel_rfl) (by kernel_rfl) ?_
  repeat (go_big_quiet_step (fail))
  refine wpQuiet_nil ?_
  rintro w6 ⟨zz, hz⟩
  have hb : Below w5.heap.size w5 w6 := hz ▸ zz.ok
  clear ze0 ze1 ze2 ze3 ze4 zd0 zd1
  have g6' := keep_block hb g5' (lt_of_block g5')
  have r6 := keep_block hb r5 (lt_of_block r5)
  have q6 := keep_block hb q5 (lt_of_block q5)
  have t6 := keep_block hb t5 (lt_of_block t5)
  have s6 := keep_block hb s5 (lt_of_block s5)
  have HO6 := Lib.hid (HO5.out.below hb)
  have HA6 := Lib.hid (HA5.out.below hb)
  have HX6 := Lib.hid (HX5.out.below hb)
  have HY6 := Lib.hid (HY5.out.below hb)
  have HC6 : Hid (Below w1.heap.size w1 w6) := HC5.out.trans (hb.mono HC5.out.size)
  clear hb hz zz
  clear c0 c1' c2' c3 d0 d1 e0 e1 e2 e3 e4
  obtain ⟨y0, y1⟩ := cells2 s6
  obtain ⟨c0, c1', c2', c3⟩ := cells4 g6'
  obtain ⟨e0, e1, e2, e3, e4⟩ := cells5 q6
  have HDO := Lib.hid (specDoR_is (B0 := w1.heap.size) (P := w2.heap.size) (n2' := m2) (y0 := e.y) (z0 := e.z) HN.out HKK.out HXX.out HL1.out HN9.out HL2.out HN4.out HM2.out s6 HO6.out HA6.out HAP.out HNE.out HS2.out (Nat.le_refl _))
  go_wp2_with fail
  refine HDO.out.mono ?_
  rintro e' w7 ⟨rfl, ad, cd, s7, o7, ro7, nil7, hb7⟩
  have t7 := keep_block hb7 t6 HS1.out
  have HC7 : Hid (Below w1.heap.size w1 w7) := HC6.out.trans hb7
  have HO7 := Lib.hid o7
  have HRO7 := Lib.hid ro7
  have HNI7 := Lib.hid nil7
  clear hb7 o7 ro7 nil7 y0 y1 c0 c1' c2' c3 e0 e1 e2 e3 e4 HDO g6' r6 q6 t6 s6 HO6 HA6 HX6 HY6 HC6
  obtain ⟨y0, y1⟩ := cells2 s7
  go_wp2_with fail
  refine (specCopyR_is aa n1 ca _ ad m2 cd _ HLA.out h1 HM2.out (by have := HM4.out; omega) HO7.out.nil HNI7.out _ HO7.out.row HRO7.out).mono ?_
  rintro e' w8 ⟨ae, ce, af, cf, rfl, oa, ob, ap, hb8⟩
  have t8 := keep_block hb8 t7 (lt_of_block t7)
  have HC8 : Hid (Below w1.heap.size w1 w8) := HC7.out.trans (hb8.mono HC7.out.size)
  have HO8 : Hid (OwnI w1.heap.size (.slice ae n1 ce) (addL N la e) w8) := oa.mono HC7.out.size
  have HA8 : Hid (OwnI w1.heap.size (.slice af m2 cf) (addA ac e) w8) := ob.mono HC7.out.size
  have HAP8 := Lib.hid ap
  clear hb8 oa ob ap y0 y1 s7 t7 HC7 HO7 HRO7 HNI7
  obtain ⟨x0, x1⟩ := cells2 t8
  have f0 := thawed t8 0
  have f1 := thawed t8 1
  go_wp2_with fail
  (try simp only [Exit.inBlock, Exit.then])
  refine bodyPost_ret (v := .agg #[.slice ae n1 ce, .slice af m2 cf]) (by simp [results, Try.results32, go_sem, x0, x1]) rfl ?_
  rw [HE1.out, HE2.out]
  have hs := HS1.out
  refine ⟨ae, ce, af, cf, rfl, ?_, ?_, HAP8.out, ?_⟩
  · refine OwnI.mono (B := w1.heap.size) ?_ (by omega)
    repeat' (first | exact HO8.out | refine ownI_set (by simp; omega) ?_ _)
  · refine OwnI.mono (B := w1.heap.size) ?_ (by omega)
    repeat' (first | exact HA8.out | refine ownI_set (by simp; omega) ?_ _)
  · have hB := HB1.out.trans (HC8.out.mono HB1.out.size)
    repeat' (first | exact hB | refine Below.drew ?_ | refine Below.setCell ?_ (by simp <;> omega) _)

end Go.Proofs.Ythplhjdfajhmpaa

namespace Go.Proofs.Ythplhjdfajhmpaa
open Go.RowKit Go.PlainAid

set_option linter.unusedVariables false

theorem addL_len (N : Nat) (la : List Int) (e : Ev) : (addL N la e).length = la.length := by unfold addL; rw [List.length_set]

theorem rdL_len (g0 B g2 g3 : Int) (N : Nat) (la ac : List Int) (e : Ev) : (rdL g0 B g2 g3 N la ac e).length = la.length := by
  unfold rdL
  split
  · exact addL_len _ _ _
  · rfl

theorem rdA_len (g0 B g2 g3 : Int) (N : Nat) (la ac : List Int) (e : Ev) (h : ac.length ≤ 4) : (rdA g0 B g2 g3 N la ac e).length ≤ 4 := by
  unfold rdA
  split
  · unfold addA
    split
    · split <;> simp at * <;> omega
    · exact h
  · exact h

set_option maxHeartbeats 16000000 in
set_option maxRecDepth 100000 in
theorem specReadyOf_is (g0 B g2 g3 : Int) (N : Nat) (hN : bankN g0 B g2 g3 = (N : Int)) (a : Option Addr) (n c : Nat) (L : List Ev) (la ac : List Int) (n1 n2 : Nat) (hla : (ofT g0 B g2 g3 N L).1 = la) (hac : (ofT g0 B g2 g3 N L).2 = ac) (hn1 : la.length = n1) (hn2 : ac.length = n2) (hl : L.length = n) (h1 : n ≤ 3000000) (w : World) (hr : evK.Row w a L) :
    Calls Try.prog 34 #[.agg #[.int .i64 g0, .int .i64 B, .int .i64 g2, .int .i64 g3], .slice a n c] w (GivesRd n1 n2 la ac w) := by
  obtain ⟨w1, hw1⟩ : ∃ u, (w.alloc (.cells #[.int .i64 g0, .int .i64 B, .int .i64 g2, .int .i64 g3] 25)).alloc (.cells #[.slice none 0 0, .slice none 0 0] 33) = u := ⟨_, rfl⟩
  have HB1 : Hid (Below w.heap.size w w1) := by subst hw1; exact ((Below.refl _ _).alloc (Nat.le_refl _) _).alloc (by simp) _
  have g1 : w1.heap[w.heap.size]? = some (.cells #[.int .i64 g0, .int .i64 B, .int .i64 g2, .int .i64 g3] 25) := by subst hw1; exact heap_alloc2_old _ _ _
  have t1 : w1.heap[w.heap.size + 1]? = some (.cells #[.slice none 0 0, .slice none 0 0] 33) := by subst hw1; exact heap_alloc2_new _ _ _
  have HS1 : Hid (w.heap.size + 1 < w1.heap.size) := lt_of_block t1
  have HR := Lib.hid (hr.below HB1.out)
  have HL := Lib.hid hl
  have HN := Lib.hid hN
  have HLA := Lib.hid hla
  have HAC := Lib.hid hac
  have HN1 := Lib.hid hn1
  have HN2 := Lib.hid hn2
  have hr8 := bankN_range g0 B g2 g3
  have hN8 : N ≤ 8 := by omega
  have HLEN : Hid (∀ m, (ofT g0 B g2 g3 N (L.take m)).1.length = (newL g0 B g2 g3 N).length ∧ (ofT g0 B g2 g3 N (L.take m)).2.length ≤ 4) := fun m => by
    induction m with
    | zero => exact ⟨rfl, Nat.zero_le _⟩
    | succ m ih =>
      by_cases hm : m < L.length
      · rw [take_snoc hm, ofT_snoc]
        exact ⟨(rdL_len _ _ _ _ _ _ _ _).trans ih.1, rdA_len _ _ _ _ _ _ _ _ ih.2⟩
      · rw [List.take_of_length_le (by omega)] at ih ⊢
        exact ih
  have HNL : Hid ((newL g0 B g2 g3 N).length = n1) := by
    show _ = _
    rw [← hn1, ← hla, ← (HLEN.out n).1, List.take_of_length_le (by omega)]
  have hn1b : n1 ≤ 81 := by
    rw [← HNL.out]
    unfold newL
    split
    · rw [List.length_replicate]; omega
    · simp
  obtain ⟨c0, c1, c2, c3⟩ := cells4 g1
  clear hr hl hN hla hac hn1 hn2 hr8
  go_enter Try.func34, Try.ntmps34
  go_wp2_with fail
  refine (specReadyNew_is g0 B g2 g3 N HN.out _ rfl n1 HNL.out _).mono ?_
  rintro e w2 ⟨ao, co, bo, dq, rfl, oa, ob, ap, hb2⟩
  have hb3 : Below w2.heap.size w2 (w2.alloc (.cells #[.slice ao n1 co, .slice bo 0 dq] 33)) := (Below.refl _ _).alloc (Nat.le_refl _) _
  have HS2 : Hid (w1.heap.size ≤ w2.heap.size) := hb2.size
  have ST : Hid ((w2.alloc (.cells #[.slice ao n1 co, .slice bo 0 dq] 33)).heap[w.heap.size]? = some (.cells #[.int .i64 g0, .int .i64 B, .int .i64 g2, .int .i64 g3] 25) ∧ (w2.alloc (.cells #[.slice ao n1 co, .slice bo 0 dq] 33)).heap[w.heap.size + 1]? = some (.cells #[.slice none 0 0, .slice none 0 0] 33) ∧ (w2.alloc (.cells #[.slice ao n1 co, .slice bo 0 dq] 33)).heap[w2.heap.size]? = some (.cells #[.slice ao n1 co, .slice bo 0 dq] 33) ∧ OwnI w1.heap.size (.slice ao n1 co) (newL g0 B g2 g3 N) (w2.alloc (.cells #[.slice ao n1 co, .slice bo 0 dq] 33)) ∧ OwnI w1.heap.size (.slice bo 0 dq) [] (w2.alloc (.cells #[.slice ao n1 co, .slice bo 0 dq] 33)) ∧ Apt ao bo ∧ Below w1.heap.size w1 (w2.alloc (.cells #[.slice ao n1 co, .slice bo 0 dq] 33))) :=
    have k := fun (i : Nat) (o : Obj) (h : w1.heap[i]? = some o) => keep_block hb3 (keep_block hb2 h (lt_of_block h)) (by have := lt_of_block h; have := hb2.size; omega)
    ⟨k _ _ g1, k _ _ t1, heap_alloc_new _ _, oa.below hb3, ob.below hb3, ap, hb2.trans (hb3.mono hb2.size)⟩
  clear hb2 hb3 oa ob ap c0 c1 c2 c3
  go_wp2_with fail
  generalize (w2.alloc (.cells #[.slice ao n1 co, .slice bo 0 dq] 33)) = w3 at ST ⊢
  go_loopw [6] (fun i wr => ∃ (m n2 : Nat) (aa : Option Addr) (ca : Nat) (ab : Option Addr) (cb : Nat), m ≤ n ∧ i = .int .i64 m ∧ Hid ((ofT g0 B g2 g3 N (L.take m)).2.length = n2) ∧ wr.heap[w.heap.size]? = some (.cells #[.int .i64 g0, .int .i64 B, .int .i64 g2, .int .i64 g3] 25) ∧ wr.heap[w.heap.size + 1]? = some (.cells #[.slice none 0 0, .slice none 0 0] 33) ∧ wr.heap[w2.heap.size]? = some (.cells #[.slice aa n1 ca, .slice ab n2 cb] 33) ∧ OwnI w1.heap.size (.slice aa n1 ca) (ofT g0 B g2 g3 N (L.take m)).1 wr ∧ OwnI w1.heap.size (.slice ab n2 cb) (ofT g0 B g2 g3 N (L.take m)).2 wr ∧ Apt aa ab ∧ Below w1.heap.size w1 wr) (fun i _ => n - (intOf i).toNat)
  case atStart =>
    obtain ⟨s1, s2, s3, s4, s5, s6, s7⟩ := ST.out
    exact ⟨0, 0, ao, co, bo, _, Nat.zero_le _, rfl, rfl, s1, s2, s3, s4, s5, s6, s7⟩
  case round =>
    clear ST
    obtain ⟨m, k2, aa, ca, ab, cb, hm, rfl, hk2, gr, tr, sr, oa, ob, ap, hbr⟩ := hrel
    have HK2 : Hid ((ofT g0 B g2 g3 N (L.take m)).2.length = k2) := hk2
    have HOA := Lib.hid oa
    have HOB := Lib.hid ob
    have HAP := Lib.hid ap
    have HBR := Lib.hid hbr
    clear oa ob ap hbr hk2
    by_cases hlt : m < n
    case pos =>
      have hml : m < L.length := by rw [HL.out]; exact hlt
      have HT := Lib.hid (take_snoc hml)
      obtain ⟨b, off, rfl, a0, a1, a2, a3, a4⟩ := ev_at (HR.out.below HBR.out) (i := m) hml
      obtain ⟨e, he⟩ : ∃ e, L.getD m ev0 = e := ⟨_, rfl⟩
      rw [he] at a0 a1 a2 a3 a4 HT
      clear he
      obtain ⟨c0, c1, c2, c3⟩ := cells4 gr
      obtain ⟨d0, d1⟩ := cells2 sr
      have zg0 := fun u : Later wr => u.cell c0
      have zg1 := fun u : Later wr => u.cell c1
      have zg2 := fun u : Later wr => u.cell c2
      have zg3 := fun u : Later wr => u.cell c3
      have zd0 := fun u : Later wr => u.cell d0
      have zd1 := fun u : Later wr => u.cell d1
      have za0 := fun u : Later wr => u.cell a0
      have za1 := fun u : Later wr => u.cell a1
      have za2 := fun u : Later wr => u.cell a2
      have za3 := fun u : Later wr => u.cell a3
      have za4 := fun u : Later wr => u.cell a4
      have hc := (HLEN.out m).1.trans HNL.out
      have HLM := Lib.hid hc
      have hk4 : k2 ≤ 4 := by rw [← HK2.out]; exact (HLEN.out m).2
      obtain ⟨k3, hk3⟩ : ∃ k3, (ofT g0 B g2 g3 N (L.take (m + 1))).2.length = k3 := ⟨_, rfl⟩
      have HK3 := Lib.hid hk3
      have HSN : Hid (rdL g0 B g2 g3 N (ofT g0 B g2 g3 N (L.take m)).1 (ofT g0 B g2 g3 N (L.take m)).2 e = (ofT g0 B g2 g3 N (L.take (m + 1))).1 ∧ rdA g0 B g2 g3 N (ofT g0 B g2 g3 N (L.take m)).1 (ofT g0 B g2 g3 N (L.take m)).2 e = (ofT g0 B g2 g3 N (L.take (m + 1))).2) := by
        show _ ∧ _
        rw [HT.out, ofT_snoc]
        exact ⟨rfl, rfl⟩
      clear hk3 hc
      go_wp2_with fail
      refine wp_region_later_tail 6 (by kernel_rfl) (by kernel_rfl) ?_
      simp only [List.take_succ_cons, List.take_zero, List.drop_succ_cons, List.drop_zero]
      repeat (go_big_quiet_step (fail))
      refine wpQuiet_nil ?_
      rintro w4 ⟨zz, hz⟩
      have hb4 : Below wr.heap.size wr w4 := hz ▸ zz.ok
      have g4 := keep_block hb4 gr (lt_of_block gr)
      have t4 := keep_block hb4 tr (lt_of_block tr)
      have s4 := keep_block hb4 sr (lt_of_block sr)
      have HOA4 := Lib.hid (HOA.out.below hb4)
      have HOB4 := Lib.hid (HOB.out.below hb4)
      have HB4 : Hid (Below w1.heap.size w1 w4) := HBR.out.trans (hb4.mono HBR.out.size)
      clear zg0 zg1 zg2 zg3 zd0 zd1 za0 za1 za2 za3 za4 hz zz hb4 a0 a1 a2 a3 a4 c0 c1 c2 c3 d0 d1 gr tr sr HOA HOB HBR
      go_wp2_with fail
      refine (specReadyAfter_is g0 B g2 g3 N HN.out aa n1 ca _ ab k2 cb _ e _ _ k3 HSN.out.1 HSN.out.2 HK3.out HLM.out (by omega) HK2.out (by omega) HOA4.out.nil HOB4.out.nil _ HOA4.out.row HOB4.out.row).mono ?_
      rintro e' w5 ⟨ac', cc, ad, cd, rfl, oc, od, ap5, hb5⟩
      have g5 := keep_block hb5 g4 (lt_of_block g4)
      have t5 := keep_block hb5 t4 (lt_of_block t4)
      have s5 := keep_block hb5 s4 (lt_of_block s4)
      have HB5 : Hid (Below w1.heap.size w1 w5) := HB4.out.trans (hb5.mono HB4.out.size)
      have HLT : Hid (w2.heap.size < w4.heap.size) := lt_of_block s4
      obtain ⟨d0, d1⟩ := cells2 s5
      have f0 := thawed s5 0
      have f1 := thawed s5 1
      have FIN : Hid (∀ W, (w5.setCell ⟨w2.heap.size, 0, none⟩ (.slice ac' n1 cc)).setCell ⟨w2.heap.size, 1, none⟩ (.slice ad k3 cd) = W → W.heap[w.heap.size]? = some (.cells #[.int .i64 g0, .int .i64 B, .int .i64 g2, .int .i64 g3] 25) ∧ W.heap[w.heap.size + 1]? = some (.cells #[.slice none 0 0, .slice none 0 0] 33) ∧ W.heap[w2.heap.size]? = some (.cells #[.slice ac' n1 cc, .slice ad k3 cd] 33) ∧ OwnI w1.heap.size (.slice ac' n1 cc) (ofT g0 B g2 g3 N (L.take (m + 1))).1 W ∧ OwnI w1.heap.size (.slice ad k3 cd) (ofT g0 B g2 g3 N (L.take (m + 1))).2 W ∧ Apt ac' ad ∧ Below w1.heap.size w1 W) := by
        rintro W rfl
        have hs1 := HS1.out
        have hs2 := HS2.out
        have hlt := HLT.out
        refine ⟨?_, ?_, set_cells (set_cells s5 0 _) 1 _, ?_, ?_, ap5, (HB5.out.setCell (by exact hs2) _).setCell (by exact hs2) _⟩
        · exact (Below.heap_setCell _ _ _ _ (by simp; omega)).trans ((Below.heap_setCell _ _ _ _ (by simp; omega)).trans g5)
        · exact (Below.heap_setCell _ _ _ _ (by simp; omega)).trans ((Below.heap_setCell _ _ _ _ (by simp; omega)).trans t5)
        · exact (ownI_set (by exact hlt) (ownI_set (by exact hlt) oc _) _).mono (by omega)
        · exact (ownI_set (by exact hlt) (ownI_set (by exact hlt) od _) _).mono (by omega)
      clear hb5 oc od ap5 g4 t4 s4 s5 g5 t5 HOA4 HOB4 HB4 HB5
      go_wp2_with fail
      have FF := FIN.out _ rfl
      go_roundw
      case rel =>
        obtain ⟨s1, s2, s3, s4, s5, s6, s7⟩ := FF
        exact ⟨m + 1, k3, ac', cc, ad, cd, by omega, by go_num, HK3.out, s1, s2, s3, s4, s5, s6, s7⟩
      case measure => simp [intOf]; omega
    obtain rfl : m = n := by omega
    have hfull : L.take m = L := List.take_of_length_le (by rw [HL.out]; exact Nat.le_refl _)
    obtain rfl : k2 = n2 := by rw [← HK2.out, hfull, HAC.out]; exact HN2.out
    have HO1 : Hid (OwnI w1.heap.size (.slice aa n1 ca) la wr) := by have h := HOA.out; rw [hfull, HLA.out] at h; exact h
    have HO2 : Hid (OwnI w1.heap.size (.slice ab k2 cb) ac wr) := by have h := HOB.out; rw [hfull, HAC.out] at h; exact h
    obtain ⟨d0, d1⟩ := cells2 sr
    obtain ⟨x0, x1⟩ := cells2 tr
    have f0 := thawed tr 0
    have f1 := thawed tr 1
    clear hfull hlt
    go_wp2_with fail
    (try simp only [Exit.inBlock, Exit.then])
    refine bodyPost_ret (v := .agg #[.slice aa n1 ca, .slice ab k2 cb]) (by simp [results, Try.results34, go_sem, x0, x1]) rfl ?_
    have hs := HS1.out
    refine ⟨aa, ca, ab, cb, rfl, ?_, ?_, HAP.out, ?_⟩
    · refine OwnI.mono (B := w1.heap.size) ?_ (by omega)
      repeat' (first | exact HO1.out | refine ownI_set (by simp; omega) ?_ _)
    · refine OwnI.mono (B := w1.heap.size) ?_ (by omega)
      repeat' (first | exact HO2.out | refine ownI_set (by simp; omega) ?_ _)
    · have hB := HB1.out.trans (HBR.out.mono HB1.out.size)
      repeat' (first | exact hB | refine Below.drew ?_ | refine Below.setCell ?_ (by simp <;> omega) _)

end Go.Proofs.Ythplhjdfajhmpaa

namespace Go.Proofs.Ythplhjdfajhmpaa
open Go.RowKit

set_option linter.unusedVariables false

theorem pick_rd {B1 B2 B n1 c1 n2 c2 : Nat} {a1 a2 : Option Addr} {la ac : List Int} {w : World} (h1 : OwnI B1 (.slice a1 n1 c1) la w) (h2 : OwnI B2 (.slice a2 n2 c2) ac w) (hap : Apt a1 a2) (hB1 : B ≤ B1) (hB2 : B ≤ B2) (hBw : B ≤ w.heap.size) :
    ∃ g1 g2, (∀ x, a1 = some x → x.block = g1) ∧ (∀ x, a2 = some x → x.block = g2) ∧ (∀ x, a1 = some x → x.block ≠ g2) ∧ (∀ x, a2 = some x → x.block ≠ g1) ∧ g1 ≠ w.heap.size ∧ B ≤ g1 ∧ B ≤ g2 ∧ (∀ P, P < w.heap.size → (∀ x, a1 = some x → x.block ≠ P) → (∀ x, a2 = some x → x.block ≠ P) → P ≠ g1 ∧ P ≠ g2) := by
  have l1 := h1.lo
  have l2 := h2.lo
  rcases a1 with _ | x <;> rcases a2 with _ | y
  · exact ⟨w.heap.size + 1, w.heap.size + 1, (fun x h => by cases h), (fun x h => by cases h), (fun x h => by cases h), (fun x h => by cases h), by omega, by omega, by omega, fun P hP _ _ => ⟨by omega, by omega⟩⟩
  · have := l2 y rfl
    exact ⟨w.heap.size + 1, y.block, (fun x h => by cases h), (fun x h => by cases h; rfl), (fun x h => by cases h), (fun x h => by cases h; omega), by omega, by omega, by omega, fun P hP _ h => ⟨by omega, fun e => h y rfl e.symm⟩⟩
  · have := l1 x rfl
    exact ⟨x.block, w.heap.size + 1, (fun x h => by cases h; rfl), (fun x h => by cases h), (fun x h => by cases h; omega), (fun x h => by cases h), by omega, by omega, by omega, fun P hP h _ => ⟨fun e => h x rfl e.symm, by omega⟩⟩
  · have := l1 x rfl
    have := l2 y rfl
    have hne := hap x y rfl rfl
    exact ⟨x.block, y.block, (fun x h => by cases h; rfl), (fun x h => by cases h; rfl), (fun x h => by cases h; exact hne), (fun x h => by cases h; exact fun e => hne e.symm), by omega, by omega, by omega, fun P hP h h' => ⟨fun e => h x rfl e.symm, fun e => h' y rfl e.symm⟩⟩

set_option maxHeartbeats 16000000 in
set_option maxRecDepth 100000 in
theorem exReadyNew_of (IMPL : Hid IReadyNew) (ea eb ec ed : Int) (w : World) :
    Calls Try.prog 5 #[.agg #[.int .i64 ea, .int .i64 eb, .int .i64 ec, .int .i64 ed]] w fun e w' => e = .returned (.bool true) ∧ Below w.heap.size w w' := by
  have hbk := bankN_range ea eb ec ed
  obtain ⟨N, hN⟩ := Int.eq_ofNat_of_zero_le hbk.1
  have HN := Lib.hid hN
  obtain ⟨la, hla⟩ : ∃ l, newL ea eb ec ed N = l := ⟨_, rfl⟩
  have HLA := Lib.hid hla
  obtain ⟨n1, hn1⟩ : ∃ m, la.length = m := ⟨_, rfl⟩
  have HN1 := Lib.hid hn1
  have hn81 : n1 ≤ 81 := by
    rw [← hn1, ← hla]
    unfold newL
    split
    · rw [List.length_replicate]; omega
    · simp
  have HNIL : Hid (([] : List Int).length = 0) := rfl
  clear hN hbk hla hn1
  obtain ⟨w1, hw1⟩ : ∃ u, w.alloc (.cells #[.int .i64 ea, .int .i64 eb, .int .i64 ec, .int .i64 ed] 43) = u := ⟨_, rfl⟩
  have HB1 : Hid (Below w.heap.size w w1) := by subst hw1; exact (Below.refl _ _).alloc (Nat.le_refl _) _
  have g1 : w1.heap[w.heap.size]? = some (.cells #[.int .i64 ea, .int .i64 eb, .int .i64 ec, .int .i64 ed] 43) := by subst hw1; exact heap_alloc_new _ _
  go_enter Try.func5, Try.ntmps5
  obtain ⟨vg0, vg1, vg2, vg3⟩ := cells4 g1
  go_wp2_with fail
  clear vg0 vg1 vg2 vg3
  refine (toGeometry_any _ _ _ _ _).mono ?_
  rintro e w2 ⟨rfl, hb2⟩
  have g2 := keep_block hb2 g1 (lt_of_block g1)
  have HB2 : Hid (Below w.heap.size w w2) := HB1.out.trans (hb2.mono HB1.out.size)
  clear g1 HB1
  clear hb2
  obtain ⟨vg0, vg1, vg2, vg3⟩ := cells4 g2
  go_wp2_with fail
  clear vg0 vg1 vg2 vg3
  refine (specReadyNew_is _ _ _ _ N HN.out la HLA.out n1 HN1.out _).mono ?_
  rintro e w3 ⟨Sa, Sc, Sb, Sd, rfl, own3, pwn3, ap3, hb3⟩
  have g3 := keep_block hb3 g2 (lt_of_block g2)
  have HB3 : Hid (Below w.heap.size w w3) := HB2.out.trans (hb3.mono HB2.out.size)
  clear g2 HB2
  have S3 : Hid (OwnI w2.heap.size (.slice Sa n1 Sc) la w3) := own3
  have Sq3 : Hid (OwnI w2.heap.size (.slice Sb 0 Sd) [] w3) := pwn3
  have SZS : Hid (w2.heap.size ≤ w3.heap.size) := hb3.size
  clear own3 pwn3 ap3
  clear hb3
  have hb4 : Below w3.heap.size w3 (w3.alloc (.cells #[.slice Sa n1 Sc, .slice Sb 0 Sd] 33)) := (Below.refl _ _).alloc (Nat.le_refl _) _
  have g4 := keep_block hb4 g3 (lt_of_block g3)
  have S4 : Hid (OwnI w2.heap.size (.slice Sa n1 Sc) la (w3.alloc (.cells #[.slice Sa n1 Sc, .slice Sb 0 Sd] 33))) := S3.out.below hb4
  have Sq4 : Hid (OwnI w2.heap.size (.slice Sb 0 Sd) [] (w3.alloc (.cells #[.slice Sa n1 Sc, .slice Sb 0 Sd] 33))) := Sq3.out.below hb4
  have s4 := heap_alloc_new w3 (.cells #[.slice Sa n1 Sc, .slice Sb 0 Sd] 33)
  have HB4 : Hid (Below w.heap.size w (w3.alloc (.cells #[.slice Sa n1 Sc, .slice Sb 0 Sd] 33))) := HB3.out.trans (hb4.mono HB3.out.size)
  obtain ⟨vg0, vg1, vg2, vg3⟩ := cells4 g4
  obtain ⟨vs0, vs1⟩ := cells2 s4
  go_wp2_with fail
  clear vg0 vg1 vg2 vg3 vs0 vs1 hb4
  clear g3 S3 Sq3 HB3
  generalize (w3.alloc (.cells #[.slice Sa n1 Sc, .slice Sb 0 Sd] 33)) = w4 at g4 S4 Sq4 s4 HB4 ⊢
  obtain ⟨sP, hsP⟩ : ∃ p, w3.heap.size = p := ⟨_, rfl⟩
  rw [hsP] at s4
  (try simp only [hsP])
  clear hsP
  refine (toGeometry_any _ _ _ _ _).mono ?_
  rintro e w5 ⟨rfl, hb5⟩
  have g5 := keep_block hb5 g4 (lt_of_block g4)
  have s5 := keep_block hb5 s4 (lt_of_block s4)
  have S5 : Hid (OwnI w2.heap.size (.slice Sa n1 Sc) la w5) := S4.out.below hb5
  have Sq5 : Hid (OwnI w2.heap.size (.slice Sb 0 Sd) [] w5) := Sq4.out.below hb5
  have HB5 : Hid (Below w.heap.size w w5) := HB4.out.trans (hb5.mono HB4.out.size)
  clear g4 s4 S4 Sq4 HB4
  clear hb5
  have HSB : Hid (w.heap.size < w5.heap.size ∧ sP < w5.heap.size ∧ (∀ x, Sa = some x → x.block < w5.heap.size) ∧ ∀ x, Sb = some x → x.block < w5.heap.size) := ⟨lt_of_block g5, lt_of_block s5, fun x hx => (S5.out.lo x hx).2, fun x hx => (Sq5.out.lo x hx).2⟩
  obtain ⟨vg0, vg1, vg2, vg3⟩ := cells4 g5
  obtain ⟨vs0, vs1⟩ := cells2 s5
  go_wp2_with fail
  clear vg0 vg1 vg2 vg3 vs0 vs1
  refine (IMPL.out _ _ _ _ N HN.out la HLA.out n1 HN1.out _).mono ?_
  rintro e w6 ⟨Ia, Ic, Ib, Id, rfl, own6, pwn6, ap6, hb6⟩
  have g6 := keep_block hb6 g5 (lt_of_block g5)
  have s6 := keep_block hb6 s5 (lt_of_block s5)
  have S6 : Hid (OwnI w2.heap.size (.slice Sa n1 Sc) la w6) := S5.out.below hb6
  have Sq6 : Hid (OwnI w2.heap.size (.slice Sb 0 Sd) [] w6) := Sq5.out.below hb6
  have HB6 : Hid (Below w.heap.size w w6) := HB5.out.trans (hb6.mono HB5.out.size)
  clear g5 s5 S5 Sq5 HB5
  have I6 : Hid (OwnI w5.heap.size (.slice Ia n1 Ic) la w6) := own6
  have Iq6 : Hid (OwnI w5.heap.size (.slice Ib 0 Id) [] w6) := pwn6
  have API := Lib.hid ap6
  have SZI : Hid (w5.heap.size ≤ w6.heap.size) := hb6.size
  clear own6 pwn6 ap6
  clear hb6
  have HIB : Hid ((∀ x, Ia = some x → x.block < w6.heap.size) ∧ ∀ x, Ib = some x → x.block < w6.heap.size) := ⟨fun x hx => (I6.out.lo x hx).2, fun x hx => (Iq6.out.lo x hx).2⟩
  have hb7 : Below w6.heap.size w6 (w6.alloc (.cells #[.slice Ia n1 Ic, .slice Ib 0 Id] 33)) := (Below.refl _ _).alloc (Nat.le_refl _) _
  have g7 := keep_block hb7 g6 (lt_of_block g6)
  have s7 := keep_block hb7 s6 (lt_of_block s6)
  have S7 : Hid (OwnI w2.heap.size (.slice Sa n1 Sc) la (w6.alloc (.cells #[.slice Ia n1 Ic, .slice Ib 0 Id] 33))) := S6.out.below hb7
  have Sq7 : Hid (OwnI w2.heap.size (.slice Sb 0 Sd) [] (w6.alloc (.cells #[.slice Ia n1 Ic, .slice Ib 0 Id] 33))) := Sq6.out.below hb7
  have I7 : Hid (OwnI w5.heap.size (.slice Ia n1 Ic) la (w6.alloc (.cells #[.slice Ia n1 Ic, .slice Ib 0 Id] 33))) := I6.out.below hb7
  have Iq7 : Hid (OwnI w5.heap.size (.slice Ib 0 Id) [] (w6.alloc (.cells #[.slice Ia n1 Ic, .slice Ib 0 Id] 33))) := Iq6.out.below hb7
  have i7 := heap_alloc_new w6 (.cells #[.slice Ia n1 Ic, .slice Ib 0 Id] 33)
  have HB7 : Hid (Below w.heap.size w (w6.alloc (.cells #[.slice Ia n1 Ic, .slice Ib 0 Id] 33))) := HB6.out.trans (hb7.mono HB6.out.size)
  obtain ⟨vg0, vg1, vg2, vg3⟩ := cells4 g7
  obtain ⟨vs0, vs1⟩ := cells2 s7
  obtain ⟨vi0, vi1⟩ := cells2 i7
  go_wp2_with fail
  clear vg0 vg1 vg2 vg3 vs0 vs1 vi0 vi1 hb7
  clear g6 s6 S6 Sq6 I6 Iq6 HB6
  generalize (w6.alloc (.cells #[.slice Ia n1 Ic, .slice Ib 0 Id] 33)) = w7 at g7 s7 S7 Sq7 I7 Iq7 i7 HB7 ⊢
  obtain ⟨iP, hiP⟩ : ∃ p, w6.heap.size = p := ⟨_, rfl⟩
  rw [hiP] at i7
  have HIP : Hid (w5.heap.size ≤ iP ∧ (∀ x, Ia = some x → x.block < iP) ∧ ∀ x, Ib = some x → x.block < iP) := ⟨by have := SZI.out; omega, fun x hx => by have := HIB.out.1 x hx; omega, fun x hx => by have := HIB.out.2 x hx; omega⟩
  (try simp only [hiP])
  clear hiP
  refine (eqReady_is HN1.out HNIL.out I7.out Iq7.out S7.out Sq7.out (by omega) (by omega)).mono ?_
  rintro e w8 ⟨rfl, hb8⟩
  have g8 := keep_block hb8 g7 (lt_of_block g7)
  have s8 := keep_block hb8 s7 (lt_of_block s7)
  have i8 := keep_block hb8 i7 (lt_of_block i7)
  have S8 : Hid (OwnI w2.heap.size (.slice Sa n1 Sc) la w8) := S7.out.below hb8
  have Sq8 : Hid (OwnI w2.heap.size (.slice Sb 0 Sd) [] w8) := Sq7.out.below hb8
  have I8 : Hid (OwnI w5.heap.size (.slice Ia n1 Ic) la w8) := I7.out.below hb8
  have Iq8 : Hid (OwnI w5.heap.size (.slice Ib 0 Id) [] w8) := Iq7.out.below hb8
  have HB8 : Hid (Below w.heap.size w w8) := HB7.out.trans (hb8.mono HB7.out.size)
  clear g7 s7 i7 S7 Sq7 I7 Iq7 HB7
  clear hb8
  obtain ⟨vg0, vg1, vg2, vg3⟩ := cells4 g8
  obtain ⟨vs0, vs1⟩ := cells2 s8
  obtain ⟨vi0, vi1⟩ := cells2 i8
  go_wp2_with fail
  clear vg0 vg1 vg2 vg3 vs0 vs1 vi0 vi1
  have hSB := HSB.out
  have hIS := HIP.out
  obtain ⟨gi, gk, hg1, hg2, hx1, hx2, hsz, hBi, hBk, hother⟩ := pick_rd (B := w5.heap.size) I8.out Iq8.out API.out (Nat.le_refl _) (Nat.le_refl _) (by have := lt_of_block i8; omega)
  refine (markReady_is HN1.out HNIL.out I8.out Iq8.out 1 (by omega) gi gk hg1 hg2 hx1 hx2 hsz).mono ?_
  rintro e w9 ⟨rfl, M', Mq', ho9⟩
  have g9 := (ho9.block _ (lt_of_block g8) (by omega) (by omega)).trans g8
  have s9 := (ho9.block _ (lt_of_block s8) (by omega) (by omega)).trans s8
  have hoi := hother iP (lt_of_block i8) (fun x hx => by have := hIS.2.1 x hx; omega) (fun x hx => by have := hIS.2.2 x hx; omega)
  have i9 := (ho9.block _ (lt_of_block i8) hoi.1 hoi.2).trans i8
  have S9 : Hid (OwnI w2.heap.size (.slice Sa n1 Sc) la w9) := S8.out.keep2 ho9 (fun x hx => by have := hSB.2.2.1 x hx; omega) (fun x hx => by have := hSB.2.2.1 x hx; omega)
  have Sq9 : Hid (OwnI w2.heap.size (.slice Sb 0 Sd) [] w9) := Sq8.out.keep2 ho9 (fun x hx => by have := hSB.2.2.2 x hx; omega) (fun x hx => by have := hSB.2.2.2 x hx; omega)
  have M9 : Hid (OwnI w5.heap.size (.slice Ia n1 Ic) (marksI 1 n1) w9) := M'
  have Mq9 : Hid (OwnI w5.heap.size (.slice Ib 0 Id) (marksI (1 + n1) 0) w9) := Mq'
  have HB9 : Hid (Below w.heap.size w w9) := HB8.out.trans (ho9.below (by omega) (by omega) HB8.out.size)
  have HH : Hid (∀ u : World, OwnI w5.heap.size (.slice Ia n1 Ic) (marksI 1 n1) u → OwnI w5.heap.size (.slice Ib 0 Id) (marksI (1 + n1) 0) u → Calls Try.prog 27 #[.agg #[.slice Ia n1 Ic, .slice Ib 0 Id], .int .i64 ((1 : Nat) : Int)] u (Gives (.int .i64 ((1 + n1 + 0 : Nat) : Int)) u)) := fun u h h' => heldReady_is 1 h h' (by omega)
  have km0 : 0 ≤ ((1 + n1 + 0 : Nat) : Int) := by omega
  obtain ⟨km, hkm⟩ : ∃ u : Int, ((1 + n1 + 0 : Nat) : Int) = u := ⟨_, rfl⟩
  rw [hkm] at km0 HH
  (try simp only [hkm])
  have tkm : (km != km) = false := by simp
  have tkn : decide (km < 0) = false := decide_eq_false (by omega)
  clear g8 s8 i8 S8 Sq8 I8 Iq8 HB8 ho9 M' Mq' hSB hIS hg1 hg2 hx1 hx2 hsz hBi hBk hother hoi hkm
  obtain ⟨vg0, vg1, vg2, vg3⟩ := cells4 g9
  obtain ⟨vs0, vs1⟩ := cells2 s9
  obtain ⟨vi0, vi1⟩ := cells2 i9
  go_wp2_with fail
  clear vg0 vg1 vg2 vg3 vs0 vs1 vi0 vi1
  refine (HH.out _ M9.out Mq9.out).mono ?_
  rintro e w10 ⟨rfl, hb10⟩
  have g10 := keep_block hb10 g9 (lt_of_block g9)
  have s10 := keep_block hb10 s9 (lt_of_block s9)
  have i10 := keep_block hb10 i9 (lt_of_block i9)
  have S10 : Hid (OwnI w2.heap.size (.slice Sa n1 Sc) la w10) := S9.out.below hb10
  have Sq10 : Hid (OwnI w2.heap.size (.slice Sb 0 Sd) [] w10) := Sq9.out.below hb10
  have M10 : Hid (OwnI w5.heap.size (.slice Ia n1 Ic) (marksI 1 n1) w10) := M9.out.below hb10
  have Mq10 : Hid (OwnI w5.heap.size (.slice Ib 0 Id) (marksI (1 + n1) 0) w10) := Mq9.out.below hb10
  have HB10 : Hid (Below w.heap.size w w10) := HB9.out.trans (hb10.mono HB9.out.size)
  clear g9 s9 i9 S9 Sq9 M9 Mq9 HB9
  clear hb10
  obtain ⟨vg0, vg1, vg2, vg3⟩ := cells4 g10
  obtain ⟨vs0, vs1⟩ := cells2 s10
  obtain ⟨vi0, vi1⟩ := cells2 i10
  go_wp2_with fail
  clear vg0 vg1 vg2 vg3 vs0 vs1 vi0 vi1
  refine (toGeometry_any _ _ _ _ _).mono ?_
  rintro e w11 ⟨rfl, hb11⟩
  have g11 := keep_block hb11 g10 (lt_of_block g10)
  have s11 := keep_block hb11 s10 (lt_of_block s10)
  have i11 := keep_block hb11 i10 (lt_of_block i10)
  have S11 : Hid (OwnI w2.heap.size (.slice Sa n1 Sc) la w11) := S10.out.below hb11
  have Sq11 : Hid (OwnI w2.heap.size (.slice Sb 0 Sd) [] w11) := Sq10.out.below hb11
  have M11 : Hid (OwnI w5.heap.size (.slice Ia n1 Ic) (marksI 1 n1) w11) := M10.out.below hb11
  have Mq11 : Hid (OwnI w5.heap.size (.slice Ib 0 Id) (marksI (1 + n1) 0) w11) := Mq10.out.below hb11
  have HB11 : Hid (Below w.heap.size w w11) := HB10.out.trans (hb11.mono HB10.out.size)
  clear g10 s10 i10 S10 Sq10 M10 Mq10 HB10
  clear hb11
  obtain ⟨vg0, vg1, vg2, vg3⟩ := cells4 g11
  obtain ⟨vs0, vs1⟩ := cells2 s11
  obtain ⟨vi0, vi1⟩ := cells2 i11
  go_wp2_with fail
  clear vg0 vg1 vg2 vg3 vs0 vs1 vi0 vi1
  refine (IMPL.out _ _ _ _ N HN.out la HLA.out n1 HN1.out _).mono ?_
  rintro e w12 ⟨Ja, Jc, Jb, Jd, rfl, own12, pwn12, ap12, hb12⟩
  have g12 := keep_block hb12 g11 (lt_of_block g11)
  have s12 := keep_block hb12 s11 (lt_of_block s11)
  have i12 := keep_block hb12 i11 (lt_of_block i11)
  have S12 : Hid (OwnI w2.heap.size (.slice Sa n1 Sc) la w12) := S11.out.below hb12
  have Sq12 : Hid (OwnI w2.heap.size (.slice Sb 0 Sd) [] w12) := Sq11.out.below hb12
  have M12 : Hid (OwnI w5.heap.size (.slice Ia n1 Ic) (marksI 1 n1) w12) := M11.out.below hb12
  have Mq12 : Hid (OwnI w5.heap.size (.slice Ib 0 Id) (marksI (1 + n1) 0) w12) := Mq11.out.below hb12
  have HB12 : Hid (Below w.heap.size w w12) := HB11.out.trans (hb12.mono HB11.out.size)
  clear g11 s11 i11 S11 Sq11 M11 Mq11 HB11
  have J12 : Hid (OwnI w11.heap.size (.slice Ja n1 Jc) la w12) := own12
  have Jq12 : Hid (OwnI w11.heap.size (.slice Jb 0 Jd) [] w12) := pwn12
  have SZJ : Hid (w11.heap.size ≤ w12.heap.size) := hb12.size
  clear own12 pwn12 ap12
  clear hb12
  have hb13 : Below w12.heap.size w12 (w12.alloc (.cells #[.slice Ja n1 Jc, .slice Jb 0 Jd] 33)) := (Below.refl _ _).alloc (Nat.le_refl _) _
  have g13 := keep_block hb13 g12 (lt_of_block g12)
  have s13 := keep_block hb13 s12 (lt_of_block s12)
  have i13 := keep_block hb13 i12 (lt_of_block i12)
  have S13 : Hid (OwnI w2.heap.size (.slice Sa n1 Sc) la (w12.alloc (.cells #[.slice Ja n1 Jc, .slice Jb 0 Jd] 33))) := S12.out.below hb13
  have Sq13 : Hid (OwnI w2.heap.size (.slice Sb 0 Sd) [] (w12.alloc (.cells #[.slice Ja n1 Jc, .slice Jb 0 Jd] 33))) := Sq12.out.below hb13
  have M13 : Hid (OwnI w5.heap.size (.slice Ia n1 Ic) (marksI 1 n1) (w12.alloc (.cells #[.slice Ja n1 Jc, .slice Jb 0 Jd] 33))) := M12.out.below hb13
  have Mq13 : Hid (OwnI w5.heap.size (.slice Ib 0 Id) (marksI (1 + n1) 0) (w12.alloc (.cells #[.slice Ja n1 Jc, .slice Jb 0 Jd] 33))) := Mq12.out.below hb13
  have J13 : Hid (OwnI w11.heap.size (.slice Ja n1 Jc) la (w12.alloc (.cells #[.slice Ja n1 Jc, .slice Jb 0 Jd] 33))) := J12.out.below hb13
  have Jq13 : Hid (OwnI w11.heap.size (.slice Jb 0 Jd) [] (w12.alloc (.cells #[.slice Ja n1 Jc, .slice Jb 0 Jd] 33))) := Jq12.out.below hb13
  have j13 := heap_alloc_new w12 (.cells #[.slice Ja n1 Jc, .slice Jb 0 Jd] 33)
  have HB13 : Hid (Below w.heap.size w (w12.alloc (.cells #[.slice Ja n1 Jc, .slice Jb 0 Jd] 33))) := HB12.out.trans (hb13.mono HB12.out.size)
  obtain ⟨vg0, vg1, vg2, vg3⟩ := cells4 g13
  obtain ⟨vs0, vs1⟩ := cells2 s13
  obtain ⟨vi0, vi1⟩ := cells2 i13
  obtain ⟨vj0, vj1⟩ := cells2 j13
  go_wp2_with fail
  clear vg0 vg1 vg2 vg3 vs0 vs1 vi0 vi1 vj0 vj1 hb13
  clear g12 s12 i12 S12 Sq12 M12 Mq12 J12 Jq12 HB12
  generalize (w12.alloc (.cells #[.slice Ja n1 Jc, .slice Jb 0 Jd] 33)) = w13 at g13 s13 i13 S13 Sq13 M13 Mq13 J13 Jq13 j13 HB13 ⊢
  obtain ⟨jP, hjP⟩ : ∃ p, w12.heap.size = p := ⟨_, rfl⟩
  rw [hjP] at j13
  (try simp only [hjP])
  clear hjP
  refine (eqReady_is HN1.out HNIL.out J13.out Jq13.out S13.out Sq13.out (by omega) (by omega)).mono ?_
  rintro e w14 ⟨rfl, hb14⟩
  have g14 := keep_block hb14 g13 (lt_of_block g13)
  have s14 := keep_block hb14 s13 (lt_of_block s13)
  have i14 := keep_block hb14 i13 (lt_of_block i13)
  have j14 := keep_block hb14 j13 (lt_of_block j13)
  have S14 : Hid (OwnI w2.heap.size (.slice Sa n1 Sc) la w14) := S13.out.below hb14
  have Sq14 : Hid (OwnI w2.heap.size (.slice Sb 0 Sd) [] w14) := Sq13.out.below hb14
  have M14 : Hid (OwnI w5.heap.size (.slice Ia n1 Ic) (marksI 1 n1) w14) := M13.out.below hb14
  have Mq14 : Hid (OwnI w5.heap.size (.slice Ib 0 Id) (marksI (1 + n1) 0) w14) := Mq13.out.below hb14
  have J14 : Hid (OwnI w11.heap.size (.slice Ja n1 Jc) la w14) := J13.out.below hb14
  have Jq14 : Hid (OwnI w11.heap.size (.slice Jb 0 Jd) [] w14) := Jq13.out.below hb14
  have HB14 : Hid (Below w.heap.size w w14) := HB13.out.trans (hb14.mono HB13.out.size)
  clear g13 s13 i13 j13 S13 Sq13 M13 Mq13 J13 Jq13 HB13
  clear hb14
  obtain ⟨vg0, vg1, vg2, vg3⟩ := cells4 g14
  obtain ⟨vs0, vs1⟩ := cells2 s14
  obtain ⟨vi0, vi1⟩ := cells2 i14
  obtain ⟨vj0, vj1⟩ := cells2 j14
  go_wp2_with fail
  clear vg0 vg1 vg2 vg3 vs0 vs1 vi0 vi1 vj0 vj1
  refine (HH.out _ M14.out Mq14.out).mono ?_
  rintro e w15 ⟨rfl, hb15⟩
  have g15 := keep_block hb15 g14 (lt_of_block g14)
  have s15 := keep_block hb15 s14 (lt_of_block s14)
  have i15 := keep_block hb15 i14 (lt_of_block i14)
  have j15 := keep_block hb15 j14 (lt_of_block j14)
  have S15 : Hid (OwnI w2.heap.size (.slice Sa n1 Sc) la w15) := S14.out.below hb15
  have Sq15 : Hid (OwnI w2.heap.size (.slice Sb 0 Sd) [] w15) := Sq14.out.below hb15
  have M15 : Hid (OwnI w5.heap.size (.slice Ia n1 Ic) (marksI 1 n1) w15) := M14.out.below hb15
  have Mq15 : Hid (OwnI w5.heap.size (.slice Ib 0 Id) (marksI (1 + n1) 0) w15) := Mq14.out.below hb15
  have J15 : Hid (OwnI w11.heap.size (.slice Ja n1 Jc) la w15) := J14.out.below hb15
  have Jq15 : Hid (OwnI w11.heap.size (.slice Jb 0 Jd) [] w15) := Jq14.out.below hb15
  have HB15 : Hid (Below w.heap.size w w15) := HB14.out.trans (hb15.mono HB14.out.size)
  clear g14 s14 i14 j14 S14 Sq14 M14 Mq14 J14 Jq14 HB14
  clear hb15
  go_wp2
  go_ret
  exact ⟨rfl, HB15.out⟩

end Go.Proofs.Ythplhjdfajhmpaa

namespace Go.Proofs.Ythplhjdfajhmpaa
open Go.RowKit

set_option linter.unusedVariables false

set_option maxHeartbeats 16000000 in
set_option maxRecDepth 100000 in
theorem exReadyOk_of (IMPL : Hid IReadyOk) (ea eb ec ed : Int) (ll : List Value) (w : World) (s : Sh.Fits w (.and (.row (.num .i64)) (.and (.row (.num .i64)) .fin)) ll) :
    Calls Try.prog 6 #[.agg #[.int .i64 ea, .int .i64 eb, .int .i64 ec, .int .i64 ed], .agg ll.toArray] w fun e w' => e = .returned (.bool true) ∧ Below w.heap.size w w' := by
  obtain ⟨a1, n1, c1, z1, a2, n2, c2, z2, rfl, ⟨hz1, hr1, hn1⟩, ⟨hz2, hr2, hn2⟩⟩ := rd_in s
  have HZ1 := Lib.hid hz1
  have HZ2 := Lib.hid hz2
  have hbk := bankN_range ea eb ec ed
  obtain ⟨N, hN⟩ := Int.eq_ofNat_of_zero_le hbk.1
  have HN := Lib.hid hN
  obtain ⟨sv, hsv⟩ : ∃ v : Int, (if (1048576 : Int) - (n1 : Int) - (n2 : Int) < 0 then -1 else 1048576 - (n1 : Int) - (n2 : Int)) = v := ⟨_, rfl⟩
  have HSV := Lib.hid hsv
  obtain ⟨w1, hw1⟩ : ∃ u, ((w.alloc (.cells #[.int .i64 ea, .int .i64 eb, .int .i64 ec, .int .i64 ed] 43)).alloc (.cells #[.slice a1 n1 c1, .slice a2 n2 c2] 57)) = u := ⟨_, rfl⟩
  have HB1 : Hid (Below w.heap.size w w1) := by subst hw1; exact ((Below.refl _ _).alloc (Nat.le_refl _) _).alloc (by simp) _
  have g1 : w1.heap[w.heap.size]? = some (.cells #[.int .i64 ea, .int .i64 eb, .int .i64 ec, .int .i64 ed] 43) := by subst hw1; exact heap_alloc2_old _ _ _
  have r1 : w1.heap[w.heap.size + 1]? = some (.cells #[.slice a1 n1 c1, .slice a2 n2 c2] 57) := by subst hw1; exact heap_alloc2_new _ _ _
  have HR0 := Lib.hid (fun (u : World) (hb : Below w.heap.size w u) => And.intro (hr1.below hb) (hr2.below hb))
  obtain ⟨v, hv⟩ : ∃ v, decide (RdOk ea eb ec ed N z1 z2) = v := ⟨_, rfl⟩
  have HV := Lib.hid hv
  clear hv
  clear hz1 hz2 hr1 hr2 hN hbk
  go_enter Try.func6, Try.ntmps6
  obtain ⟨vg0, vg1, vg2, vg3⟩ := cells4 g1
  obtain ⟨vr0, vr1⟩ := cells2 r1
  go_wp2_with fail
  clear vg0 vg1 vg2 vg3 vr0 vr1
  refine (szReady_is _ _ _ _ _ _ 1048576 sv hn1 hn2 (by omega) (by omega) HSV.out _).mono ?_
  rintro e w2 ⟨rfl, hb2⟩
  have g2 := keep_block hb2 g1 (lt_of_block g1)
  have r2 := keep_block hb2 r1 (lt_of_block r1)
  have HB2 : Hid (Below w.heap.size w w2) := HB1.out.trans (hb2.mono HB1.out.size)
  clear g1 r1 HB1
  clear hb2
  by_cases hbig : (1048576 : Int) - (n1 : Int) - (n2 : Int) < 0
  · have hs : sv < 0 := by rw [← hsv, if_pos hbig]; omega
    clear hsv hbig
    go_wp2
    go_ret
    exact ⟨rfl, HB2.out⟩
  have hs : 0 ≤ sv := by rw [← hsv, if_neg hbig]; omega
  have hn1b : n1 ≤ 1048576 := by omega
  have hn2b : n2 ≤ 1048576 := by omega
  clear hsv hbig hn1 hn2
  go_wp2_with fail
  refine wp_region_float (A := ?A1) [.h, .t, .h, .t, .t, .e] (by kernel_rfl) (by kernel_rfl) (fun u => u.heap[w.heap.size]? = some (.cells #[.int .i64 ea, .int .i64 eb, .int .i64 ec, .int .i64 ed] 43) ∧ u.heap[(w.heap.size + 1)]? = some (.cells #[.slice a1 n1 c1, .slice a2 n2 c2] 57)) ?hC1 ?hH1 ?hT1
  case hC1 => exact ⟨g2, r2⟩
  case hH1 =>
    intro u hu
    obtain ⟨a0, a1, a2, a3⟩ := cells4 hu.1
    have z0 := fun q : Same u => q.cell a0
    have z1 := fun q : Same u => q.cell a1
    have z2 := fun q : Same u => q.cell a2
    have z3 := fun q : Same u => q.cell a3
    obtain ⟨a4, a5⟩ := cells2 hu.2
    have z4 := fun q : Same u => q.cell a4
    have z5 := fun q : Same u => q.cell a5
    simp only [headsOf]
    repeat (go_big_quiet_step (fail))
    refine wpQuiet_nil ?_
    exact rfl
  case hT1 =>
    simp only [chainT]
    have g3 : w2.drew.heap[w.heap.size]? = some (.cells #[.int .i64 ea, .int .i64 eb, .int .i64 ec, .int .i64 ed] 43) := g2
    have r3 : w2.drew.heap[(w.heap.size + 1)]? = some (.cells #[.slice a1 n1 c1, .slice a2 n2 c2] 57) := r2
    have HB3 : Hid (Below w.heap.size w w2.drew) := Below.drew HB2.out
    clear g2 r2 HB2
    generalize w2.drew = w3 at g3 r3 HB3 ⊢
    go_wp2_with fail
    refine (toGeometry_any _ _ _ _ _).mono ?_
    rintro e w4 ⟨rfl, hb4⟩
    have g4 := keep_block hb4 g3 (lt_of_block g3)
    have r4 := keep_block hb4 r3 (lt_of_block r3)
    have HB4 : Hid (Below w.heap.size w w4) := HB3.out.trans (hb4.mono HB3.out.size)
    clear g3 r3 HB3
    clear hb4
    go_wp2_with fail
    refine stepQ_normal ⟨⟨g4, r4⟩, ?_⟩
    go_wp2_with fail
    refine (toReady_is _ _ _ _ _ _ _ _ HZ1.out (by omega) HZ2.out (by omega) _ (HR0.out _ HB4.out).1 (HR0.out _ HB4.out).2).mono ?_
    rintro e w5 ⟨Sa, Sc, Sb, Sd, rfl, own5, pwn5, ap5, hb5⟩
    have g5 := keep_block hb5 g4 (lt_of_block g4)
    have r5 := keep_block hb5 r4 (lt_of_block r4)
    have HB5 : Hid (Below w.heap.size w w5) := HB4.out.trans (hb5.mono HB4.out.size)
    clear g4 r4 HB4
    have S5 : Hid (OwnI w4.heap.size (.slice Sa n1 Sc) z1 w5) := own5
    have Sq5 : Hid (OwnI w4.heap.size (.slice Sb n2 Sd) z2 w5) := pwn5
    have NS : Hid (Sa = none → Sc = 0) := own5.nil
    have MS : Hid (Sb = none → Sd = 0) := pwn5.nil
    have CS : Hid (n1 ≤ Sc) := own5.capI
    clear own5 pwn5 ap5
    clear hb5
    go_wp2_with fail
    refine stepQ_normal ⟨⟨g5, r5⟩, ?_⟩
    go_wp2_with fail
    refine (specReadyOk_is _ _ _ _ N HN.out _ _ _ _ _ _ _ _ v HV.out HZ1.out (by omega) HZ2.out (by omega) _ S5.out.row Sq5.out.row).mono ?_
    rintro e w6 ⟨rfl, hb6⟩
    have g6 := keep_block hb6 g5 (lt_of_block g5)
    have r6 := keep_block hb6 r5 (lt_of_block r5)
    have S6 : Hid (OwnI w4.heap.size (.slice Sa n1 Sc) z1 w6) := S5.out.below hb6
    have Sq6 : Hid (OwnI w4.heap.size (.slice Sb n2 Sd) z2 w6) := Sq5.out.below hb6
    have HB6 : Hid (Below w.heap.size w w6) := HB5.out.trans (hb6.mono HB5.out.size)
    clear g5 r5 S5 Sq5 HB5
    clear hb6
    go_wp2_with fail
    refine stepQ_normal ⟨⟨g6, r6⟩, ?_⟩
    go_wp2_with fail
    refine stepQ_normal ⟨trivial, ?_⟩
    clear S6
    clear Sq6
    obtain ⟨vg0, vg1, vg2, vg3⟩ := cells4 g6
    obtain ⟨vr0, vr1⟩ := cells2 r6
    go_wp2_with fail
    clear vg0 vg1 vg2 vg3 vr0 vr1
    refine (toReady_is _ _ _ _ _ _ _ _ HZ1.out (by omega) HZ2.out (by omega) _ (HR0.out _ HB6.out).1 (HR0.out _ HB6.out).2).mono ?_
    rintro e w7 ⟨Xa, Xc, Xb, Xd, rfl, own7, pwn7, ap7, hb7⟩
    have g7 := keep_block hb7 g6 (lt_of_block g6)
    have r7 := keep_block hb7 r6 (lt_of_block r6)
    have HB7 : Hid (Below w.heap.size w w7) := HB6.out.trans (hb7.mono HB6.out.size)
    clear g6 r6 HB6
    have X7 : Hid (OwnI w6.heap.size (.slice Xa n1 Xc) z1 w7) := own7
    have Xq7 : Hid (OwnI w6.heap.size (.slice Xb n2 Xd) z2 w7) := pwn7
    have NX : Hid (Xa = none → Xc = 0) := own7.nil
    have MX : Hid (Xb = none → Xd = 0) := pwn7.nil
    have CX : Hid (n1 ≤ Xc) := own7.capI
    clear own7 pwn7 ap7
    clear hb7
    have hb8 : Below w7.heap.size w7 (w7.alloc (.cells #[.slice Xa n1 Xc, .slice Xb n2 Xd] 33)) := (Below.refl _ _).alloc (Nat.le_refl _) _
    have g8 := keep_block hb8 g7 (lt_of_block g7)
    have r8 := keep_block hb8 r7 (lt_of_block r7)
    have X8 : Hid (OwnI w6.heap.size (.slice Xa n1 Xc) z1 (w7.alloc (.cells #[.slice Xa n1 Xc, .slice Xb n2 Xd] 33))) := X7.out.below hb8
    have Xq8 : Hid (OwnI w6.heap.size (.slice Xb n2 Xd) z2 (w7.alloc (.cells #[.slice Xa n1 Xc, .slice Xb n2 Xd] 33))) := Xq7.out.below hb8
    have x8 := heap_alloc_new w7 (.cells #[.slice Xa n1 Xc, .slice Xb n2 Xd] 33)
    have HB8 : Hid (Below w.heap.size w (w7.alloc (.cells #[.slice Xa n1 Xc, .slice Xb n2 Xd] 33))) := HB7.out.trans (hb8.mono HB7.out.size)
    go_wp2_with fail
    clear hb8
    clear g7 r7 X7 Xq7 HB7
    generalize (w7.alloc (.cells #[.slice Xa n1 Xc, .slice Xb n2 Xd] 33)) = w8 at g8 r8 X8 Xq8 x8 HB8 ⊢
    obtain ⟨xP, hxP⟩ : ∃ p, w7.heap.size = p := ⟨_, rfl⟩
    rw [hxP] at x8
    (try simp only [hxP])
    clear hxP
    obtain ⟨vg0, vg1, vg2, vg3⟩ := cells4 g8
    obtain ⟨vr0, vr1⟩ := cells2 r8
    obtain ⟨vx0, vx1⟩ := cells2 x8
    have zvg0 := fun qq : Later w8 => qq.cell vg0
    have zvg1 := fun qq : Later w8 => qq.cell vg1
    have zvg2 := fun qq : Later w8 => qq.cell vg2
    have zvg3 := fun qq : Later w8 => qq.cell vg3
    have zvr0 := fun qq : Later w8 => qq.cell vr0
    have zvr1 := fun qq : Later w8 => qq.cell vr1
    have zvx0 := fun qq : Later w8 => qq.cell vx0
    have zvx1 := fun qq : Later w8 => qq.cell vx1
    have HZX := Lib.hid (fun zz : Later w8 => X8.out.below zz.ok)
    have HZXq := Lib.hid (fun zz : Later w8 => Xq8.out.below zz.ok)
    clear vg0 vg1 vg2 vg3 vr0 vr1 vx0 vx1
    go_wp2_with fail
    refine wp_region_later (by kernel_rfl) (by kernel_rfl) ?_
    repeat (go_big_quiet_step (first | (go_at_call 19; exact Gives.later _ (toGeometry_any _ _ _ _ _)) | (go_at_call 31; exact Gives.later _ (IMPL.out _ _ _ _ N HN.out _ _ _ _ _ _ _ _ v HV.out HZ1.out (by omega) HZ2.out (by omega) NX.out MX.out CX.out _ (HZX.out _).row (HZXq.out _).row))))
    refine wpQuiet_nil ?_
    rintro w9 ⟨zz, hzz⟩
    have hb9 : Below w8.heap.size w8 w9 := hzz ▸ zz.ok
    have g9 := keep_block hb9 g8 (lt_of_block g8)
    have r9 := keep_block hb9 r8 (lt_of_block r8)
    have x9 := keep_block hb9 x8 (lt_of_block x8)
    have X9 : Hid (OwnI w6.heap.size (.slice Xa n1 Xc) z1 w9) := X8.out.below hb9
    have Xq9 : Hid (OwnI w6.heap.size (.slice Xb n2 Xd) z2 w9) := Xq8.out.below hb9
    have HB9 : Hid (Below w.heap.size w w9) := HB8.out.trans (hb9.mono HB8.out.size)
    clear g8 r8 x8 X8 Xq8 HB8
    clear hb9 hzz zz zvg0 zvg1 zvg2 zvg3 zvr0 zvr1 zvx0 zvx1 HZX HZXq
    have tvv : (v != v) = false := by simp
    go_wp2_with fail
    refine wp_region_float (A := ?A2) [.h, .h, .t, .t, .e] (by kernel_rfl) (by kernel_rfl) (fun u => u.heap[(w.heap.size + 1)]? = some (.cells #[.slice a1 n1 c1, .slice a2 n2 c2] 57) ∧ u.heap[xP]? = some (.cells #[.slice Xa n1 Xc, .slice Xb n2 Xd] 33)) ?hC2 ?hH2 ?hT2
    case hC2 => exact ⟨r9, x9⟩
    case hH2 =>
      intro u hu
      obtain ⟨a0, a1⟩ := cells2 hu.1
      have z0 := fun q : Same u => q.cell a0
      have z1 := fun q : Same u => q.cell a1
      obtain ⟨a2, a3⟩ := cells2 hu.2
      have z2 := fun q : Same u => q.cell a2
      have z3 := fun q : Same u => q.cell a3
      simp only [headsOf]
      repeat (go_big_quiet_step (fail))
      refine wpQuiet_nil ?_
      exact rfl
    case hT2 =>
      simp only [chainT]
      have g10 : w9.drew.heap[w.heap.size]? = some (.cells #[.int .i64 ea, .int .i64 eb, .int .i64 ec, .int .i64 ed] 43) := g9
      have r10 : w9.drew.heap[(w.heap.size + 1)]? = some (.cells #[.slice a1 n1 c1, .slice a2 n2 c2] 57) := r9
      have x10 : w9.drew.heap[xP]? = some (.cells #[.slice Xa n1 Xc, .slice Xb n2 Xd] 33) := x9
      have X10 : Hid (OwnI w6.heap.size (.slice Xa n1 Xc) z1 w9.drew) := X9.out
      have Xq10 : Hid (OwnI w6.heap.size (.slice Xb n2 Xd) z2 w9.drew) := Xq9.out
      have HB10 : Hid (Below w.heap.size w w9.drew) := Below.drew HB9.out
      clear g9 r9 x9 X9 Xq9 HB9
      generalize w9.drew = w10 at g10 r10 x10 X10 Xq10 HB10 ⊢
      go_wp2_with fail
      refine (toReady_is _ _ _ _ _ _ _ _ HZ1.out (by omega) HZ2.out (by omega) _ (HR0.out _ HB10.out).1 (HR0.out _ HB10.out).2).mono ?_
      rintro e w11 ⟨Ea, Ec, Eb, Ed, rfl, own11, pwn11, ap11, hb11⟩
      have g11 := keep_block hb11 g10 (lt_of_block g10)
      have r11 := keep_block hb11 r10 (lt_of_block r10)
      have x11 := keep_block hb11 x10 (lt_of_block x10)
      have X11 : Hid (OwnI w6.heap.size (.slice Xa n1 Xc) z1 w11) := X10.out.below hb11
      have Xq11 : Hid (OwnI w6.heap.size (.slice Xb n2 Xd) z2 w11) := Xq10.out.below hb11
      have HB11 : Hid (Below w.heap.size w w11) := HB10.out.trans (hb11.mono HB10.out.size)
      clear g10 r10 x10 X10 Xq10 HB10
      have E11 : Hid (OwnI w10.heap.size (.slice Ea n1 Ec) z1 w11) := own11
      have Eq11 : Hid (OwnI w10.heap.size (.slice Eb n2 Ed) z2 w11) := pwn11
      have NE : Hid (Ea = none → Ec = 0) := own11.nil
      have ME : Hid (Eb = none → Ed = 0) := pwn11.nil
      have CE : Hid (n1 ≤ Ec) := own11.capI
      clear own11 pwn11 ap11
      clear hb11
      go_wp2_with fail
      refine stepQ_normal ⟨⟨r11, x11⟩, ?_⟩
      go_wp2_with fail
      refine (eqReady_is HZ1.out HZ2.out X11.out Xq11.out E11.out Eq11.out (by omega) (by omega)).mono ?_
      rintro e w12 ⟨rfl, hb12⟩
      have g12 := keep_block hb12 g11 (lt_of_block g11)
      have r12 := keep_block hb12 r11 (lt_of_block r11)
      have x12 := keep_block hb12 x11 (lt_of_block x11)
      have X12 : Hid (OwnI w6.heap.size (.slice Xa n1 Xc) z1 w12) := X11.out.below hb12
      have Xq12 : Hid (OwnI w6.heap.size (.slice Xb n2 Xd) z2 w12) := Xq11.out.below hb12
      have E12 : Hid (OwnI w10.heap.size (.slice Ea n1 Ec) z1 w12) := E11.out.below hb12
      have Eq12 : Hid (OwnI w10.heap.size (.slice Eb n2 Ed) z2 w12) := Eq11.out.below hb12
      have HB12 : Hid (Below w.heap.size w w12) := HB11.out.trans (hb12.mono HB11.out.size)
      clear g11 r11 x11 X11 Xq11 E11 Eq11 HB11
      clear hb12
      go_wp2_with fail
      refine stepQ_normal ⟨⟨r12, x12⟩, ?_⟩
      go_wp2_with fail
      refine stepQ_normal ⟨trivial, ?_⟩
      go_wp2
      go_ret
      exact ⟨rfl, HB12.out⟩

end Go.Proofs.Ythplhjdfajhmpaa

namespace Go.Proofs.Ythplhjdfajhmpaa
open Go.RowKit

set_option linter.unusedVariables false

theorem OwnJ.apartRj {B n c g : Nat} {a : Option Addr} {l : List Int} {u : World} {vs : Array Value} {fr : Nat × Nat} (h : OwnJ B (.slice a n c) l u) (hh : u.heap[g]? = some (.cells vs 33 fr)) : ∀ x, a = some x → x.block ≠ g := by
  rintro x rfl e
  obtain ⟨_, _, _, hv, _, ⟨h1, _, _⟩ | ⟨g', off, cur, hg, _, hb, _⟩⟩ := h
  · cases hv; cases h1
  · cases hv
    cases hg
    subst e
    rw [hb] at hh
    injection hh with h1
    injection h1 with _ h2 _
    exact absurd h2 (by decide)

set_option maxHeartbeats 16000000 in
set_option maxRecDepth 100000 in
theorem exReadyAfter_of (IMPL : Hid IReadyAfter) (ea eb ec ed : Int) (ll : List Value) (ev : Ev) (w : World) (s : Sh.Fits w (.and (.row (.num .i64)) (.and (.row (.num .i64)) .fin)) ll) :
    Calls Try.prog 7 #[.agg #[.int .i64 ea, .int .i64 eb, .int .i64 ec, .int .i64 ed], .agg ll.toArray, .agg #[.int .i64 ev.t, .int .i64 ev.k, .int .i64 ev.x, .int .i64 ev.y, .int .i64 ev.z]] w fun e w' => e = .returned (.bool true) ∧ Below w.heap.size w w' := by
  obtain ⟨a1, n1, c1, z1, a2, n2, c2, z2, rfl, ⟨hz1, hr1, hn1⟩, ⟨hz2, hr2, hn2⟩⟩ := rd_in s
  have HZ1 := Lib.hid hz1
  have HZ2 := Lib.hid hz2
  have hbk := bankN_range ea eb ec ed
  obtain ⟨N, hN⟩ := Int.eq_ofNat_of_zero_le hbk.1
  have HN := Lib.hid hN
  obtain ⟨sv, hsv⟩ : ∃ v : Int, (if (1048576 : Int) - (n1 : Int) - (n2 : Int) < 0 then -1 else 1048576 - (n1 : Int) - (n2 : Int)) = v := ⟨_, rfl⟩
  have HSV := Lib.hid hsv
  obtain ⟨w1, hw1⟩ : ∃ u, (((w.alloc (.cells #[.int .i64 ea, .int .i64 eb, .int .i64 ec, .int .i64 ed] 43)).alloc (.cells #[.slice a1 n1 c1, .slice a2 n2 c2] 57)).alloc (.cells #[.int .i64 ev.t, .int .i64 ev.k, .int .i64 ev.x, .int .i64 ev.y, .int .i64 ev.z] 64)) = u := ⟨_, rfl⟩
  have HB1 : Hid (Below w.heap.size w w1) := by subst hw1; exact (((Below.refl _ _).alloc (Nat.le_refl _) _).alloc (by simp) _).alloc (by simp; omega) _
  have gg1 : w1.heap[w.heap.size]? = some (.cells #[.int .i64 ea, .int .i64 eb, .int .i64 ec, .int .i64 ed] 43) := by subst hw1; exact box3_0 _ _ _ _
  have r1 : w1.heap[w.heap.size + 1]? = some (.cells #[.slice a1 n1 c1, .slice a2 n2 c2] 57) := by subst hw1; exact box3_1 _ _ _ _
  have ee1 : w1.heap[w.heap.size + 1 + 1]? = some (.cells #[.int .i64 ev.t, .int .i64 ev.k, .int .i64 ev.x, .int .i64 ev.y, .int .i64 ev.z] 64) := by subst hw1; exact box3_2 _ _ _ _
  have HR0 := Lib.hid (fun (u : World) (hb : Below w.heap.size w u) => And.intro (hr1.below hb) (hr2.below hb))
  obtain ⟨l', hl'⟩ : ∃ u, rdL ea eb ec ed N z1 z2 ev = u := ⟨_, rfl⟩
  obtain ⟨a', ha'⟩ : ∃ u, rdA ea eb ec ed N z1 z2 ev = u := ⟨_, rfl⟩
  obtain ⟨m2, hm2⟩ : ∃ m, a'.length = m := ⟨_, rfl⟩
  have HLP := Lib.hid hl'
  have HAP := Lib.hid ha'
  have HM2 := Lib.hid hm2
  have HLL : Hid (l'.length = n1) := by show _ = _; rw [← hl', rdL_len, hz1]
  have hm2n : m2 ≤ n2 + 1 := by
    rw [← hm2, ← ha', ← hz2]
    unfold rdA addA
    split
    · split
      · split <;> simp <;> omega
      · omega
    · omega
  clear hl' ha' hm2
  clear hz1 hz2 hr1 hr2 hN hbk
  go_enter Try.func7, Try.ntmps7
  obtain ⟨vgg0, vgg1, vgg2, vgg3⟩ := cells4 gg1
  obtain ⟨vr0, vr1⟩ := cells2 r1
  obtain ⟨vee0, vee1, vee2, vee3, vee4⟩ := cells5 ee1
  go_wp2_with fail
  clear vgg0 vgg1 vgg2 vgg3 vr0 vr1 vee0 vee1 vee2 vee3 vee4
  refine (szReady_is _ _ _ _ _ _ 1048576 sv hn1 hn2 (by omega) (by omega) HSV.out _).mono ?_
  rintro e w2 ⟨rfl, hb2⟩
  have gg2 := keep_block hb2 gg1 (lt_of_block gg1)
  have r2 := keep_block hb2 r1 (lt_of_block r1)
  have ee2 := keep_block hb2 ee1 (lt_of_block ee1)
  have HB2 : Hid (Below w.heap.size w w2) := HB1.out.trans (hb2.mono HB1.out.size)
  clear gg1 r1 ee1 HB1
  clear hb2
  by_cases hbig : (1048576 : Int) - (n1 : Int) - (n2 : Int) < 0
  · have hs : sv < 0 := by rw [← hsv, if_pos hbig]; omega
    clear hsv hbig
    go_wp2
    go_ret
    exact ⟨rfl, HB2.out⟩
  have hs : 0 ≤ sv := by rw [← hsv, if_neg hbig]; omega
  have hn1b : n1 ≤ 1048576 := by omega
  have hn2b : n2 ≤ 1048576 := by omega
  clear hsv hbig hn1 hn2
  have hm2b : m2 ≤ 1048577 := by omega
  have tvv : (1 != 1) = false := by decide
  clear tvv
  go_wp2_with fail
  refine wp_region_flowV (fun k => match k with | 0 => some (.agg #[.int .i64 ea, .int .i64 eb, .int .i64 ec, .int .i64 ed]) | 1 => some (.agg #[.int .i64 ea, .int .i64 eb, .int .i64 ec, .int .i64 ed]) | 2 => some (.agg #[.slice a1 n1 c1, .slice a2 n2 c2]) | 4 => some (.agg #[.int .i64 ev.t, .int .i64 ev.k, .int .i64 ev.x, .int .i64 ev.y, .int .i64 ev.z]) | 5 => some (.agg #[.int .i64 ev.t, .int .i64 ev.k, .int .i64 ev.x, .int .i64 ev.y, .int .i64 ev.z]) | _ => none) (fun listed x u => FactW 3 6 (fun q u => ∃ aa ca ab cb, q = .agg #[.slice aa n1 ca, .slice ab n2 cb] ∧ OwnI w2.heap.size (.slice aa n1 ca) z1 u ∧ OwnI w2.heap.size (.slice ab n2 cb) z2 u) listed x u ∧ FactW 6 8 (fun q u => ∃ aa ca ab cb, q = .agg #[.slice aa n1 ca, .slice ab m2 cb] ∧ OwnI w2.heap.size (.slice aa n1 ca) l' u ∧ OwnJ w2.heap.size (.slice ab m2 cb) a' u ∧ Apt aa ab) listed x u ∧ MadeJ 7 8 (w2.heap.size) n1 m2 l' a' listed x u) (fun _ => undef) (by kernel_rfl) (by kernel_rfl) ?hxR1 ?hSR1 ?hsR1 ?heR1
  case hxR1 => simp only [putsX, Act.put, List.setIfInBounds_toArray, List.set_cons_zero, List.set_cons_succ]
  case hSR1 => exact ⟨FactW.zero _ _ _ _ _ _, FactW.zero _ _ _ _ _ _, MadeJ.zero _ _ _ _ _ _ _ _ _ _⟩
  case hsR1 =>
    simp only [flowSteps]
    refine ⟨?sR1_0, ?sR1_1, ?sR1_2, ?sR1_3, ?sR1_4, ?sR1_5, ?sR1_6, ?sR1_7, ?sR1_8, trivial⟩
    case sR1_0 =>
      intro listed bb u hsz hn hwt hinv
      obtain ⟨x, rfl, hC, hU, hR, hO, hM⟩ := hinv
      simp only [putsX, Act.put, List.setIfInBounds_toArray, List.set_cons_zero, List.set_cons_succ]
      obtain ⟨c0, c1', c2', c3⟩ := cells4 (keep_block hC gg2 (lt_of_block gg2))
      go_wp2_with fail
      refine stepQ_normal ⟨trivial, upd x 0 (.agg #[.int .i64 ea, .int .i64 eb, .int .i64 ec, .int .i64 ed]), ?_, hC, hU.step (fun _ h => Option.some.inj h), hR.keep (by decide) (by decide) _ id, hO.keep (by decide) (by decide) _ id, hM.keep (by decide) (by decide) _ (Below.refl _ _)⟩
      simp only [upd]
      rfl
    case sR1_1 =>
      intro listed bb u hsz hn hwt hinv
      obtain ⟨x, rfl, hC, hU, hR, hO, hM⟩ := hinv
      have f0 := Lib.hid (hU 0 _ rfl (hwt 0 (by kernel_rfl)))
      simp only [putsX, Act.put, List.setIfInBounds_toArray, List.set_cons_zero, List.set_cons_succ]
      have hcall : Calls Try.prog 19 #[x 0] u (Gives (.agg #[.int .i64 ea, .int .i64 eb, .int .i64 ec, .int .i64 ed]) u) := by rw [f0.out]; exact toGeometry_any _ _ _ _ _
      go_wp2_with fail
      refine hcall.mono ?_
      rintro e' u' ⟨rfl, hb⟩
      go_wp2_with fail
      refine stepQ_normal ⟨trivial, upd x 1 (.agg #[.int .i64 ea, .int .i64 eb, .int .i64 ec, .int .i64 ed]), ?_, hC.trans (hb.mono hC.size), hU.step (fun _ h => Option.some.inj h), hR.keep (by decide) (by decide) _ (fun ⟨b1, b2, b3, b4, b5, b6, b7⟩ => ⟨b1, b2, b3, b4, b5, b6.below (hb), b7.below (hb)⟩), hO.keep (by decide) (by decide) _ (fun ⟨b1, b2, b3, b4, b5, b6, b7, b8⟩ => ⟨b1, b2, b3, b4, b5, b6.below (hb), b7.below (hb), b8⟩), hM.keep (by decide) (by decide) _ (hb)⟩
      simp only [upd]
      rfl
    case sR1_2 =>
      intro listed bb u hsz hn hwt hinv
      obtain ⟨x, rfl, hC, hU, hR, hO, hM⟩ := hinv
      simp only [putsX, Act.put, List.setIfInBounds_toArray, List.set_cons_zero, List.set_cons_succ]
      obtain ⟨d0, d1⟩ := cells2 (keep_block hC r2 (lt_of_block r2))
      go_wp2_with fail
      refine stepQ_normal ⟨trivial, upd x 2 (.agg #[.slice a1 n1 c1, .slice a2 n2 c2]), ?_, hC, hU.step (fun _ h => Option.some.inj h), hR.keep (by decide) (by decide) _ id, hO.keep (by decide) (by decide) _ id, hM.keep (by decide) (by decide) _ (Below.refl _ _)⟩
      simp only [upd]
      rfl
    case sR1_3 =>
      intro listed bb u hsz hn hwt hinv
      obtain ⟨x, rfl, hC, hU, hR, hO, hM⟩ := hinv
      have f2 := Lib.hid (hU 2 _ rfl (hwt 2 (by kernel_rfl)))
      simp only [putsX, Act.put, List.setIfInBounds_toArray, List.set_cons_zero, List.set_cons_succ]
      have hrr := HR0.out u (HB2.out.trans (hC.mono HB2.out.size))
      have hcall : Calls Try.prog 30 #[x 2] u (GivesRd n1 n2 z1 z2 u) := by rw [f2.out]; exact toReady_is _ _ _ _ _ _ _ _ HZ1.out (by omega) HZ2.out (by omega) _ hrr.1 hrr.2
      go_wp2_with fail
      refine hcall.mono ?_
      rintro e' u' ⟨aa, ca, ab, cb, rfl, own1, own2, _, hb⟩
      go_wp2_with fail
      refine stepQ_normal ⟨trivial, upd x 3 (.agg #[.slice aa n1 ca, .slice ab n2 cb]), ?_, hC.trans (hb.mono hC.size), hU.step (fun _ h => by cases h), FactW.new ⟨aa, ca, ab, cb, rfl, own1.mono hC.size, own2.mono hC.size⟩, hO.keep (by decide) (by decide) _ (fun ⟨b1, b2, b3, b4, b5, b6, b7, b8⟩ => ⟨b1, b2, b3, b4, b5, b6.below (hb), b7.below (hb), b8⟩), hM.keep (by decide) (by decide) _ (hb)⟩
      simp only [upd]
      rfl
    case sR1_4 =>
      intro listed bb u hsz hn hwt hinv
      obtain ⟨x, rfl, hC, hU, hR, hO, hM⟩ := hinv
      simp only [putsX, Act.put, List.setIfInBounds_toArray, List.set_cons_zero, List.set_cons_succ]
      obtain ⟨e0, e1, e2, e3, e4⟩ := cells5 (keep_block hC ee2 (lt_of_block ee2))
      go_wp2_with fail
      refine stepQ_normal ⟨trivial, upd x 4 (.agg #[.int .i64 ev.t, .int .i64 ev.k, .int .i64 ev.x, .int .i64 ev.y, .int .i64 ev.z]), ?_, hC, hU.step (fun _ h => Option.some.inj h), hR.keep (by decide) (by decide) _ id, hO.keep (by decide) (by decide) _ id, hM.keep (by decide) (by decide) _ (Below.refl _ _)⟩
      simp only [upd]
      rfl
    case sR1_5 =>
      intro listed bb u hsz hn hwt hinv
      obtain ⟨x, rfl, hC, hU, hR, hO, hM⟩ := hinv
      have f4 := Lib.hid (hU 4 _ rfl (hwt 4 (by kernel_rfl)))
      simp only [putsX, Act.put, List.setIfInBounds_toArray, List.set_cons_zero, List.set_cons_succ]
      have hcall : Calls Try.prog 33 #[x 4] u (Gives (.agg #[.int .i64 ev.t, .int .i64 ev.k, .int .i64 ev.x, .int .i64 ev.y, .int .i64 ev.z]) u) := by rw [f4.out]; exact toEvent_is _ _ _ _ _ _
      go_wp2_with fail
      refine hcall.mono ?_
      rintro e' u' ⟨rfl, hb⟩
      go_wp2_with fail
      refine stepQ_normal ⟨trivial, upd x 5 (.agg #[.int .i64 ev.t, .int .i64 ev.k, .int .i64 ev.x, .int .i64 ev.y, .int .i64 ev.z]), ?_, hC.trans (hb.mono hC.size), hU.step (fun _ h => Option.some.inj h), hR.keep (by decide) (by decide) _ (fun ⟨b1, b2, b3, b4, b5, b6, b7⟩ => ⟨b1, b2, b3, b4, b5, b6.below (hb), b7.below (hb)⟩), hO.keep (by decide) (by decide) _ (fun ⟨b1, b2, b3, b4, b5, b6, b7, b8⟩ => ⟨b1, b2, b3, b4, b5, b6.below (hb), b7.below (hb), b8⟩), hM.keep (by decide) (by decide) _ (hb)⟩
      simp only [upd]
      rfl
    case sR1_6 =>
      intro listed bb u hsz hn hwt hinv
      obtain ⟨x, rfl, hC, hU, hR, hO, hM⟩ := hinv
      have f1 := Lib.hid (hU 1 _ rfl (hwt 1 (by kernel_rfl)))
      have f5 := Lib.hid (hU 5 _ rfl (hwt 5 (by kernel_rfl)))
      simp only [putsX, Act.put, List.setIfInBounds_toArray, List.set_cons_zero, List.set_cons_succ]
      obtain ⟨aa, ca, ab, cb, fp, ow1, ow2⟩ := hR (hwt 3 (by kernel_rfl)) hn
      have hcall : Calls Try.prog 32 #[x 1, x 3, x 5] u (GivesRj n1 m2 l' a' u) := by rw [fp, f1.out, f5.out]; exact (specReadyAfter_is ea eb ec ed N HN.out aa n1 ca z1 ab n2 cb z2 ev l' a' m2 HLP.out HAP.out HM2.out HZ1.out (by omega) HZ2.out (by omega) ow1.nil ow2.nil _ ow1.row ow2.row).mono (fun _ _ h => h.toJ HM2.out)
      clear fp
      go_wp2_with fail
      refine hcall.mono ?_
      rintro e' u' ⟨Ya, Yc, Yb, Yd, rfl, own1, own2, ap, hb⟩
      go_wp2_with fail
      refine stepQ_normal ⟨trivial, upd x 6 (.agg #[.slice Ya n1 Yc, .slice Yb m2 Yd]), ?_, hC.trans (hb.mono hC.size), hU.step (fun _ h => by cases h), FactW.call (by rw [hsz]; decide), FactW.new ⟨Ya, Yc, Yb, Yd, rfl, own1.mono hC.size, own2.mono hC.size, ap⟩, hM.keep (by decide) (by decide) _ (hb)⟩
      simp only [upd]
      rfl
    case sR1_7 =>
      intro listed bb u hsz hn hwt hinv
      obtain ⟨x, rfl, hC, hU, hR, hO, hM⟩ := hinv
      simp only [putsX, Act.put, List.setIfInBounds_toArray, List.set_cons_zero, List.set_cons_succ]
      go_wp2_with fail
      refine stepQ_normal ⟨trivial, upd x 7 (.pointer (some ⟨u.heap.size, 0, none⟩)), ?_, hC.alloc hC.size _, hU.step (fun _ h => by cases h), hR.keep (by decide) (by decide) _ (fun ⟨b1, b2, b3, b4, b5, b6, b7⟩ => ⟨b1, b2, b3, b4, b5, b6.below (below_allocI _), b7.below (below_allocI _)⟩), hO.keep (by decide) (by decide) _ (fun ⟨b1, b2, b3, b4, b5, b6, b7, b8⟩ => ⟨b1, b2, b3, b4, b5, b6.below (below_allocI _), b7.below (below_allocI _), b8⟩), hM.new (by decide) hn hC.size⟩
      simp only [upd]
      rfl
    case sR1_8 =>
      intro listed bb u hsz hn hwt hinv
      obtain ⟨x, rfl, hC, hU, hR, hO, hM⟩ := hinv
      simp only [putsX, Act.put, List.setIfInBounds_toArray, List.set_cons_zero, List.set_cons_succ]
      obtain ⟨g, fg, hg, hh⟩ := hM.there (hwt 7 (by kernel_rfl)) hn
      obtain ⟨aa, ca, ab, cb, fp, o1, o2, hap⟩ := hO (hwt 6 (by kernel_rfl)) hn
      have FG := Lib.hid fg
      have FP := Lib.hid fp
      rw [FG.out, FP.out]
      obtain ⟨y0, y1⟩ := cells2 hh
      have t0 := thawed hh 0
      have t1 := thawed hh 1
      have hne1 := o1.apartRd hh
      have hne2 := o2.apartRj hh
      have hfin := set_cells (set_cells hh 0 (.slice aa n1 ca)) 1 (.slice ab m2 cb)
      have O1 := Lib.hid (ownI_same (ownI_same o1 (fun x hx => Below.heap_setCell u ⟨g, 0, none⟩ (.slice aa n1 ca) _ (hne1 x hx))) (fun x hx => Below.heap_setCell _ ⟨g, 1, none⟩ (.slice ab m2 cb) _ (hne1 x hx)))
      have O2 := Lib.hid ((o2.same (fun x hx => Below.heap_setCell u ⟨g, 0, none⟩ (.slice aa n1 ca) _ (hne2 x hx))).same (fun x hx => Below.heap_setCell _ ⟨g, 1, none⟩ (.slice ab m2 cb) _ (hne2 x hx)))
      clear hh fg fp o1 o2 hne1 hne2
      go_wp2_with fail
      refine stepQ_normal ⟨trivial, upd x 8 undef, ?_, (hC.setCell (by exact hg) _).setCell (by exact hg) _, hU.step (fun _ h => by cases h), FactW.gone (hwt 6 (by kernel_rfl)), FactW.call (by rw [hsz]; decide), MadeJ.fill (by decide) (hwt 7 (by kernel_rfl)) (by rw [hsz]; decide) FG.out hg hfin O1.out O2.out hap⟩
      simp only [upd]
      simp only [FG.out, FP.out]
      (try rfl)

  case heR1 =>
    intro listed q w3 hall hC hU hS
    obtain ⟨hR, hO, hM⟩ := hS
    obtain ⟨sP, Sa, Sc, Sb, Sd, fg, hg, hh, o1, o2, hap⟩ := hM.full (hall 7 (by decide)) (hall 8 (by decide))
    simp only [putsX, Act.put, List.setIfInBounds_toArray, List.set_cons_zero, List.set_cons_succ]
    rw [fg]
    clear hall hU hR hO hM fg
    generalize q 0 = _q0, q 1 = _q1, q 2 = _q2, q 3 = _q3, q 4 = _q4, q 5 = _q5, q 6 = _q6
    have gg3 := keep_block hC gg2 (lt_of_block gg2)
    have r3 := keep_block hC r2 (lt_of_block r2)
    have ee3 := keep_block hC ee2 (lt_of_block ee2)
    have HB3 : Hid (Below w.heap.size w w3) := HB2.out.trans (hC.mono HB2.out.size)
    have s3 := hh
    have S3 : Hid (OwnI (w2.heap.size) (.slice Sa n1 Sc) l' w3) := o1
    have Sq3 : Hid (OwnJ (w2.heap.size) (.slice Sb m2 Sd) a' w3) := o2
    have APS := Lib.hid hap
    have HSG : Hid (w2.heap.size ≤ sP ∧ w2.heap.size ≤ w3.heap.size) := ⟨hg, hC.size⟩
    clear hh o1 o2 hap hg
    clear gg2 r2 ee2 HB2
    clear hC
    have HSB : Hid (w.heap.size + 1 + 1 < w3.heap.size ∧ sP < w3.heap.size ∧ (∀ x, Sa = some x → x.block < w3.heap.size) ∧ ∀ x, Sb = some x → x.block < w3.heap.size) := ⟨lt_of_block ee3, lt_of_block s3, fun x hx => (S3.out.lo x hx).2, fun x hx => (Sq3.out.lo x hx).2⟩
    obtain ⟨vgg0, vgg1, vgg2, vgg3⟩ := cells4 gg3
    obtain ⟨vr0, vr1⟩ := cells2 r3
    obtain ⟨vee0, vee1, vee2, vee3, vee4⟩ := cells5 ee3
    obtain ⟨vs0, vs1⟩ := cells2 s3
    go_wp2_with fail
    clear vgg0 vgg1 vgg2 vgg3 vr0 vr1 vee0 vee1 vee2 vee3 vee4 vs0 vs1
    refine (toReady_is _ _ _ _ _ _ _ _ HZ1.out (by omega) HZ2.out (by omega) _ (HR0.out _ HB3.out).1 (HR0.out _ HB3.out).2).mono ?_
    rintro e w4 ⟨Xa, Xc, Xb, Xd, rfl, own4, pwn4, ap4, hb4⟩
    have gg4 := keep_block hb4 gg3 (lt_of_block gg3)
    have r4 := keep_block hb4 r3 (lt_of_block r3)
    have ee4 := keep_block hb4 ee3 (lt_of_block ee3)
    have s4 := keep_block hb4 s3 (lt_of_block s3)
    have S4 : Hid (OwnI (w2.heap.size) (.slice Sa n1 Sc) l' w4) := S3.out.below hb4
    have Sq4 : Hid (OwnJ (w2.heap.size) (.slice Sb m2 Sd) a' w4) := Sq3.out.below hb4
    have HB4 : Hid (Below w.heap.size w w4) := HB3.out.trans (hb4.mono HB3.out.size)
    clear gg3 r3 ee3 s3 S3 Sq3 HB3
    have X4 : Hid (OwnI w3.heap.size (.slice Xa n1 Xc) z1 w4) := own4
    have Xq4 : Hid (OwnI w3.heap.size (.slice Xb n2 Xd) z2 w4) := pwn4
    have NX : Hid (Xa = none → Xc = 0) := own4.nil
    have MX : Hid (Xb = none → Xd = 0) := pwn4.nil
    have CX : Hid (n1 ≤ Xc) := own4.capI
    have APX := Lib.hid ap4
    have SZX : Hid (w3.heap.size ≤ w4.heap.size) := hb4.size
    clear own4 pwn4 ap4
    clear hb4
    have HXZ : Hid (w3.heap.size ≤ w4.heap.size) := SZX.out
    have HXL : Hid ((∀ x, Xa = some x → w3.heap.size ≤ x.block ∧ x.block < w4.heap.size) ∧ ∀ x, Xb = some x → w3.heap.size ≤ x.block ∧ x.block < w4.heap.size) := ⟨X4.out.lo, Xq4.out.lo⟩
    have hb5 : Below w4.heap.size w4 (w4.alloc (.cells #[.slice Xa n1 Xc, .slice Xb n2 Xd] 33)) := (Below.refl _ _).alloc (Nat.le_refl _) _
    have gg5 := keep_block hb5 gg4 (lt_of_block gg4)
    have r5 := keep_block hb5 r4 (lt_of_block r4)
    have ee5 := keep_block hb5 ee4 (lt_of_block ee4)
    have s5 := keep_block hb5 s4 (lt_of_block s4)
    have S5 : Hid (OwnI (w2.heap.size) (.slice Sa n1 Sc) l' (w4.alloc (.cells #[.slice Xa n1 Xc, .slice Xb n2 Xd] 33))) := S4.out.below hb5
    have Sq5 : Hid (OwnJ (w2.heap.size) (.slice Sb m2 Sd) a' (w4.alloc (.cells #[.slice Xa n1 Xc, .slice Xb n2 Xd] 33))) := Sq4.out.below hb5
    have X5 : Hid (OwnI w3.heap.size (.slice Xa n1 Xc) z1 (w4.alloc (.cells #[.slice Xa n1 Xc, .slice Xb n2 Xd] 33))) := X4.out.below hb5
    have Xq5 : Hid (OwnI w3.heap.size (.slice Xb n2 Xd) z2 (w4.alloc (.cells #[.slice Xa n1 Xc, .slice Xb n2 Xd] 33))) := Xq4.out.below hb5
    have x5 := heap_alloc_new w4 (.cells #[.slice Xa n1 Xc, .slice Xb n2 Xd] 33)
    have HB5 : Hid (Below w.heap.size w (w4.alloc (.cells #[.slice Xa n1 Xc, .slice Xb n2 Xd] 33))) := HB4.out.trans (hb5.mono HB4.out.size)
    go_wp2_with fail
    clear hb5
    clear gg4 r4 ee4 s4 S4 Sq4 X4 Xq4 HB4
    generalize (w4.alloc (.cells #[.slice Xa n1 Xc, .slice Xb n2 Xd] 33)) = w5 at gg5 r5 ee5 s5 S5 Sq5 X5 Xq5 x5 HB5 ⊢
    obtain ⟨xP, hxP⟩ : ∃ p, w4.heap.size = p := ⟨_, rfl⟩
    have HXP : Hid (w4.heap.size = xP) := hxP
    rw [hxP] at x5
    (try simp only [hxP])
    clear hxP
    have HXS : Hid (w4.heap.size ≤ w5.heap.size) := by have := HXP.out; have := lt_of_block x5; show _ ≤ _; omega
    have HXQ : Hid (w3.heap.size ≤ w5.heap.size) := Nat.le_trans HXZ.out HXS.out
    go_wp2_with fail
    refine wp_region_flowV (fun k => match k with | 0 => some (.agg #[.int .i64 ea, .int .i64 eb, .int .i64 ec, .int .i64 ed]) | 1 => some (.agg #[.int .i64 ea, .int .i64 eb, .int .i64 ec, .int .i64 ed]) | 2 => some (.agg #[.slice Xa n1 Xc, .slice Xb n2 Xd]) | 3 => some (.agg #[.int .i64 ev.t, .int .i64 ev.k, .int .i64 ev.x, .int .i64 ev.y, .int .i64 ev.z]) | 4 => some (.agg #[.int .i64 ev.t, .int .i64 ev.k, .int .i64 ev.x, .int .i64 ev.y, .int .i64 ev.z]) | _ => none) (fun listed x u => FactW 5 7 (fun q u => ∃ aa ca ab cb, q = .agg #[.slice aa n1 ca, .slice ab m2 cb] ∧ OwnI w5.heap.size (.slice aa n1 ca) l' u ∧ OwnJ w5.heap.size (.slice ab m2 cb) a' u ∧ Apt aa ab) listed x u ∧ MadeJ 6 7 (w5.heap.size) n1 m2 l' a' listed x u) (fun _ => undef) (by kernel_rfl) (by kernel_rfl) ?hxR2 ?hSR2 ?hsR2 ?heR2
    case hxR2 => simp only [putsX, Act.put, List.setIfInBounds_toArray, List.set_cons_zero, List.set_cons_succ]
    case hSR2 => exact ⟨FactW.zero _ _ _ _ _ _, MadeJ.zero _ _ _ _ _ _ _ _ _ _⟩
    case hsR2 =>
      simp only [flowSteps]
      refine ⟨?sR2_0, ?sR2_1, ?sR2_2, ?sR2_3, ?sR2_4, ?sR2_5, ?sR2_6, ?sR2_7, trivial⟩
      case sR2_0 =>
        intro listed bb u hsz hn hwt hinv
        obtain ⟨x, rfl, hC, hU, hO, hM⟩ := hinv
        simp only [putsX, Act.put, List.setIfInBounds_toArray, List.set_cons_zero, List.set_cons_succ]
        obtain ⟨c0, c1', c2', c3⟩ := cells4 (keep_block hC gg5 (lt_of_block gg5))
        go_wp2_with fail
        refine stepQ_normal ⟨trivial, upd x 0 (.agg #[.int .i64 ea, .int .i64 eb, .int .i64 ec, .int .i64 ed]), ?_, hC, hU.step (fun _ h => Option.some.inj h), hO.keep (by decide) (by decide) _ id, hM.keep (by decide) (by decide) _ (Below.refl _ _)⟩
        simp only [upd]
        rfl
      case sR2_1 =>
        intro listed bb u hsz hn hwt hinv
        obtain ⟨x, rfl, hC, hU, hO, hM⟩ := hinv
        have f0 := Lib.hid (hU 0 _ rfl (hwt 0 (by kernel_rfl)))
        simp only [putsX, Act.put, List.setIfInBounds_toArray, List.set_cons_zero, List.set_cons_succ]
        have hcall : Calls Try.prog 19 #[x 0] u (Gives (.agg #[.int .i64 ea, .int .i64 eb, .int .i64 ec, .int .i64 ed]) u) := by rw [f0.out]; exact toGeometry_any _ _ _ _ _
        go_wp2_with fail
        refine hcall.mono ?_
        rintro e' u' ⟨rfl, hb⟩
        go_wp2_with fail
        refine stepQ_normal ⟨trivial, upd x 1 (.agg #[.int .i64 ea, .int .i64 eb, .int .i64 ec, .int .i64 ed]), ?_, hC.trans (hb.mono hC.size), hU.step (fun _ h => Option.some.inj h), hO.keep (by decide) (by decide) _ (fun ⟨b1, b2, b3, b4, b5, b6, b7, b8⟩ => ⟨b1, b2, b3, b4, b5, b6.below (hb), b7.below (hb), b8⟩), hM.keep (by decide) (by decide) _ (hb)⟩
        simp only [upd]
        rfl
      case sR2_2 =>
        intro listed bb u hsz hn hwt hinv
        obtain ⟨x, rfl, hC, hU, hO, hM⟩ := hinv
        simp only [putsX, Act.put, List.setIfInBounds_toArray, List.set_cons_zero, List.set_cons_succ]
        obtain ⟨d0, d1⟩ := cells2 (keep_block hC x5 (lt_of_block x5))
        go_wp2_with fail
        refine stepQ_normal ⟨trivial, upd x 2 (.agg #[.slice Xa n1 Xc, .slice Xb n2 Xd]), ?_, hC, hU.step (fun _ h => Option.some.inj h), hO.keep (by decide) (by decide) _ id, hM.keep (by decide) (by decide) _ (Below.refl _ _)⟩
        simp only [upd]
        rfl
      case sR2_3 =>
        intro listed bb u hsz hn hwt hinv
        obtain ⟨x, rfl, hC, hU, hO, hM⟩ := hinv
        simp only [putsX, Act.put, List.setIfInBounds_toArray, List.set_cons_zero, List.set_cons_succ]
        obtain ⟨e0, e1, e2, e3, e4⟩ := cells5 (keep_block hC ee5 (lt_of_block ee5))
        go_wp2_with fail
        refine stepQ_normal ⟨trivial, upd x 3 (.agg #[.int .i64 ev.t, .int .i64 ev.k, .int .i64 ev.x, .int .i64 ev.y, .int .i64 ev.z]), ?_, hC, hU.step (fun _ h => Option.some.inj h), hO.keep (by decide) (by decide) _ id, hM.keep (by decide) (by decide) _ (Below.refl _ _)⟩
        simp only [upd]
        rfl
      case sR2_4 =>
        intro listed bb u hsz hn hwt hinv
        obtain ⟨x, rfl, hC, hU, hO, hM⟩ := hinv
        have f3 := Lib.hid (hU 3 _ rfl (hwt 3 (by kernel_rfl)))
        simp only [putsX, Act.put, List.setIfInBounds_toArray, List.set_cons_zero, List.set_cons_succ]
        have hcall : Calls Try.prog 33 #[x 3] u (Gives (.agg #[.int .i64 ev.t, .int .i64 ev.k, .int .i64 ev.x, .int .i64 ev.y, .int .i64 ev.z]) u) := by rw [f3.out]; exact toEvent_is _ _ _ _ _ _
        go_wp2_with fail
        refine hcall.mono ?_
        rintro e' u' ⟨rfl, hb⟩
        go_wp2_with fail
        refine stepQ_normal ⟨trivial, upd x 4 (.agg #[.int .i64 ev.t, .int .i64 ev.k, .int .i64 ev.x, .int .i64 ev.y, .int .i64 ev.z]), ?_, hC.trans (hb.mono hC.size), hU.step (fun _ h => Option.some.inj h), hO.keep (by decide) (by decide) _ (fun ⟨b1, b2, b3, b4, b5, b6, b7, b8⟩ => ⟨b1, b2, b3, b4, b5, b6.below (hb), b7.below (hb), b8⟩), hM.keep (by decide) (by decide) _ (hb)⟩
        simp only [upd]
        rfl
      case sR2_5 =>
        intro listed bb u hsz hn hwt hinv
        obtain ⟨x, rfl, hC, hU, hO, hM⟩ := hinv
        have f1 := Lib.hid (hU 1 _ rfl (hwt 1 (by kernel_rfl)))
        have f2 := Lib.hid (hU 2 _ rfl (hwt 2 (by kernel_rfl)))
        have f4 := Lib.hid (hU 4 _ rfl (hwt 4 (by kernel_rfl)))
        simp only [putsX, Act.put, List.setIfInBounds_toArray, List.set_cons_zero, List.set_cons_succ]
        have hcall : Calls Try.prog 15 #[x 1, x 2, x 4] u (GivesRj n1 m2 l' a' u) := by rw [f1.out, f2.out, f4.out]; exact IMPL.out ea eb ec ed N HN.out Xa n1 Xc z1 Xb n2 Xd z2 ev l' a' m2 HLP.out HAP.out HM2.out HZ1.out (by omega) HZ2.out (by omega) (X5.out.below hC).nil (Xq5.out.below hC).nil (X5.out.below hC).capI _ (X5.out.below hC).row (Xq5.out.below hC).row
        go_wp2_with fail
        refine hcall.mono ?_
        rintro e' u' ⟨Ya, Yc, Yb, Yd, rfl, own1, own2, ap, hb⟩
        go_wp2_with fail
        refine stepQ_normal ⟨trivial, upd x 5 (.agg #[.slice Ya n1 Yc, .slice Yb m2 Yd]), ?_, hC.trans (hb.mono hC.size), hU.step (fun _ h => by cases h), FactW.new ⟨Ya, Yc, Yb, Yd, rfl, own1.mono hC.size, own2.mono hC.size, ap⟩, hM.keep (by decide) (by decide) _ (hb)⟩
        simp only [upd]
        rfl
      case sR2_6 =>
        intro listed bb u hsz hn hwt hinv
        obtain ⟨x, rfl, hC, hU, hO, hM⟩ := hinv
        simp only [putsX, Act.put, List.setIfInBounds_toArray, List.set_cons_zero, List.set_cons_succ]
        go_wp2_with fail
        refine stepQ_normal ⟨trivial, upd x 6 (.pointer (some ⟨u.heap.size, 0, none⟩)), ?_, hC.alloc hC.size _, hU.step (fun _ h => by cases h), hO.keep (by decide) (by decide) _ (fun ⟨b1, b2, b3, b4, b5, b6, b7, b8⟩ => ⟨b1, b2, b3, b4, b5, b6.below (below_allocI _), b7.below (below_allocI _), b8⟩), hM.new (by decide) hn hC.size⟩
        simp only [upd]
        rfl
      case sR2_7 =>
        intro listed bb u hsz hn hwt hinv
        obtain ⟨x, rfl, hC, hU, hO, hM⟩ := hinv
        simp only [putsX, Act.put, List.setIfInBounds_toArray, List.set_cons_zero, List.set_cons_succ]
        obtain ⟨g, fg, hg, hh⟩ := hM.there (hwt 6 (by kernel_rfl)) hn
        obtain ⟨aa, ca, ab, cb, fp, o1, o2, hap⟩ := hO (hwt 5 (by kernel_rfl)) hn
        have FG := Lib.hid fg
        have FP := Lib.hid fp
        rw [FG.out, FP.out]
        obtain ⟨y0, y1⟩ := cells2 hh
        have t0 := thawed hh 0
        have t1 := thawed hh 1
        have hne1 := o1.apartRd hh
        have hne2 := o2.apartRj hh
        have hfin := set_cells (set_cells hh 0 (.slice aa n1 ca)) 1 (.slice ab m2 cb)
        have O1 := Lib.hid (ownI_same (ownI_same o1 (fun x hx => Below.heap_setCell u ⟨g, 0, none⟩ (.slice aa n1 ca) _ (hne1 x hx))) (fun x hx => Below.heap_setCell _ ⟨g, 1, none⟩ (.slice ab m2 cb) _ (hne1 x hx)))
        have O2 := Lib.hid ((o2.same (fun x hx => Below.heap_setCell u ⟨g, 0, none⟩ (.slice aa n1 ca) _ (hne2 x hx))).same (fun x hx => Below.heap_setCell _ ⟨g, 1, none⟩ (.slice ab m2 cb) _ (hne2 x hx)))
        clear hh fg fp o1 o2 hne1 hne2
        go_wp2_with fail
        refine stepQ_normal ⟨trivial, upd x 7 undef, ?_, (hC.setCell (by exact hg) _).setCell (by exact hg) _, hU.step (fun _ h => by cases h), FactW.call (by rw [hsz]; decide), MadeJ.fill (by decide) (hwt 6 (by kernel_rfl)) (by rw [hsz]; decide) FG.out hg hfin O1.out O2.out hap⟩
        simp only [upd]
        simp only [FG.out, FP.out]
        (try rfl)

    case heR2 =>
      intro listed q w6 hall hC hU hS
      obtain ⟨hO, hM⟩ := hS
      obtain ⟨iP, Ia, Ic, Ib, Id, fg, hg, hh, o1, o2, hap⟩ := hM.full (hall 6 (by decide)) (hall 7 (by decide))
      simp only [putsX, Act.put, List.setIfInBounds_toArray, List.set_cons_zero, List.set_cons_succ]
      rw [fg]
      clear hall hU hO hM fg
      generalize q 0 = _q0, q 1 = _q1, q 2 = _q2, q 3 = _q3, q 4 = _q4, q 5 = _q5
      have gg6 := keep_block hC gg5 (lt_of_block gg5)
      have r6 := keep_block hC r5 (lt_of_block r5)
      have ee6 := keep_block hC ee5 (lt_of_block ee5)
      have s6 := keep_block hC s5 (lt_of_block s5)
      have x6 := keep_block hC x5 (lt_of_block x5)
      have S6 : Hid (OwnI (w2.heap.size) (.slice Sa n1 Sc) l' w6) := S5.out.below hC
      have Sq6 : Hid (OwnJ (w2.heap.size) (.slice Sb m2 Sd) a' w6) := Sq5.out.below hC
      have X6 : Hid (OwnI w3.heap.size (.slice Xa n1 Xc) z1 w6) := X5.out.below hC
      have Xq6 : Hid (OwnI w3.heap.size (.slice Xb n2 Xd) z2 w6) := Xq5.out.below hC
      have HB6 : Hid (Below w.heap.size w w6) := HB5.out.trans (hC.mono HB5.out.size)
      have i6 := hh
      have I6 : Hid (OwnI (w5.heap.size) (.slice Ia n1 Ic) l' w6) := o1
      have Iq6 : Hid (OwnJ (w5.heap.size) (.slice Ib m2 Id) a' w6) := o2
      have API := Lib.hid hap
      have HIG : Hid (w5.heap.size ≤ iP ∧ w5.heap.size ≤ w6.heap.size) := ⟨hg, hC.size⟩
      clear hh o1 o2 hap hg
      clear gg5 r5 ee5 s5 x5 S5 Sq5 X5 Xq5 HB5
      clear hC
      obtain ⟨vgg0, vgg1, vgg2, vgg3⟩ := cells4 gg6
      obtain ⟨vr0, vr1⟩ := cells2 r6
      obtain ⟨vee0, vee1, vee2, vee3, vee4⟩ := cells5 ee6
      obtain ⟨vs0, vs1⟩ := cells2 s6
      obtain ⟨vx0, vx1⟩ := cells2 x6
      obtain ⟨vi0, vi1⟩ := cells2 i6
      go_wp2_with fail
      clear vgg0 vgg1 vgg2 vgg3 vr0 vr1 vee0 vee1 vee2 vee3 vee4 vs0 vs1 vx0 vx1 vi0 vi1
      refine (eqReady_row HLL.out HM2.out I6.out.row Iq6.out.row S6.out.row Sq6.out.row (by omega) (by omega)).mono ?_
      rintro e w7 ⟨rfl, hb7⟩
      have gg7 := keep_block hb7 gg6 (lt_of_block gg6)
      have r7 := keep_block hb7 r6 (lt_of_block r6)
      have ee7 := keep_block hb7 ee6 (lt_of_block ee6)
      have s7 := keep_block hb7 s6 (lt_of_block s6)
      have x7 := keep_block hb7 x6 (lt_of_block x6)
      have i7 := keep_block hb7 i6 (lt_of_block i6)
      have S7 : Hid (OwnI (w2.heap.size) (.slice Sa n1 Sc) l' w7) := S6.out.below hb7
      have Sq7 : Hid (OwnJ (w2.heap.size) (.slice Sb m2 Sd) a' w7) := Sq6.out.below hb7
      have X7 : Hid (OwnI w3.heap.size (.slice Xa n1 Xc) z1 w7) := X6.out.below hb7
      have Xq7 : Hid (OwnI w3.heap.size (.slice Xb n2 Xd) z2 w7) := Xq6.out.below hb7
      have I7 : Hid (OwnI (w5.heap.size) (.slice Ia n1 Ic) l' w7) := I6.out.below hb7
      have Iq7 : Hid (OwnJ (w5.heap.size) (.slice Ib m2 Id) a' w7) := Iq6.out.below hb7
      have HB7 : Hid (Below w.heap.size w w7) := HB6.out.trans (hb7.mono HB6.out.size)
      clear gg6 r6 ee6 s6 x6 i6 S6 Sq6 X6 Xq6 I6 Iq6 HB6
      clear hb7
      go_wp2_with fail
      refine wp_region_float (A := ?A3) [.h, .h, .t, .t, .e] (by kernel_rfl) (by kernel_rfl) (fun u => u.heap[(w.heap.size + 1)]? = some (.cells #[.slice a1 n1 c1, .slice a2 n2 c2] 57) ∧ u.heap[xP]? = some (.cells #[.slice Xa n1 Xc, .slice Xb n2 Xd] 33)) ?hC3 ?hH3 ?hT3
      case hC3 => exact ⟨r7, x7⟩
      case hH3 =>
        intro u hu
        obtain ⟨a0, a1⟩ := cells2 hu.1
        have z0 := fun q : Same u => q.cell a0
        have z1 := fun q : Same u => q.cell a1
        obtain ⟨a2, a3⟩ := cells2 hu.2
        have z2 := fun q : Same u => q.cell a2
        have z3 := fun q : Same u => q.cell a3
        simp only [headsOf]
        repeat (go_big_quiet_step (fail))
        refine wpQuiet_nil ?_
        exact rfl
      case hT3 =>
        simp only [chainT]
        have gg8 : w7.drew.heap[w.heap.size]? = some (.cells #[.int .i64 ea, .int .i64 eb, .int .i64 ec, .int .i64 ed] 43) := gg7
        have r8 : w7.drew.heap[(w.heap.size + 1)]? = some (.cells #[.slice a1 n1 c1, .slice a2 n2 c2] 57) := r7
        have ee8 : w7.drew.heap[(w.heap.size + 1 + 1)]? = some (.cells #[.int .i64 ev.t, .int .i64 ev.k, .int .i64 ev.x, .int .i64 ev.y, .int .i64 ev.z] 64) := ee7
        have s8 : w7.drew.heap[sP]? = some (.cells #[.slice Sa n1 Sc, .slice Sb m2 Sd] 33) := s7
        have x8 : w7.drew.heap[xP]? = some (.cells #[.slice Xa n1 Xc, .slice Xb n2 Xd] 33) := x7
        have i8 : w7.drew.heap[iP]? = some (.cells #[.slice Ia n1 Ic, .slice Ib m2 Id] 33) := i7
        have S8 : Hid (OwnI (w2.heap.size) (.slice Sa n1 Sc) l' w7.drew) := S7.out
        have Sq8 : Hid (OwnJ (w2.heap.size) (.slice Sb m2 Sd) a' w7.drew) := Sq7.out
        have X8 : Hid (OwnI w3.heap.size (.slice Xa n1 Xc) z1 w7.drew) := X7.out
        have Xq8 : Hid (OwnI w3.heap.size (.slice Xb n2 Xd) z2 w7.drew) := Xq7.out
        have I8 : Hid (OwnI (w5.heap.size) (.slice Ia n1 Ic) l' w7.drew) := I7.out
        have Iq8 : Hid (OwnJ (w5.heap.size) (.slice Ib m2 Id) a' w7.drew) := Iq7.out
        have HB8 : Hid (Below w.heap.size w w7.drew) := Below.drew HB7.out
        clear gg7 r7 ee7 s7 x7 i7 S7 Sq7 X7 Xq7 I7 Iq7 HB7
        generalize w7.drew = w8 at gg8 r8 ee8 s8 x8 i8 S8 Sq8 X8 Xq8 I8 Iq8 HB8 ⊢
        go_wp2_with fail
        refine (toReady_is _ _ _ _ _ _ _ _ HZ1.out (by omega) HZ2.out (by omega) _ (HR0.out _ HB8.out).1 (HR0.out _ HB8.out).2).mono ?_
        rintro e w9 ⟨Ea, Ec, Eb, Ed, rfl, own9, pwn9, ap9, hb9⟩
        have gg9 := keep_block hb9 gg8 (lt_of_block gg8)
        have r9 := keep_block hb9 r8 (lt_of_block r8)
        have ee9 := keep_block hb9 ee8 (lt_of_block ee8)
        have s9 := keep_block hb9 s8 (lt_of_block s8)
        have x9 := keep_block hb9 x8 (lt_of_block x8)
        have i9 := keep_block hb9 i8 (lt_of_block i8)
        have S9 : Hid (OwnI (w2.heap.size) (.slice Sa n1 Sc) l' w9) := S8.out.below hb9
        have Sq9 : Hid (OwnJ (w2.heap.size) (.slice Sb m2 Sd) a' w9) := Sq8.out.below hb9
        have X9 : Hid (OwnI w3.heap.size (.slice Xa n1 Xc) z1 w9) := X8.out.below hb9
        have Xq9 : Hid (OwnI w3.heap.size (.slice Xb n2 Xd) z2 w9) := Xq8.out.below hb9
        have I9 : Hid (OwnI (w5.heap.size) (.slice Ia n1 Ic) l' w9) := I8.out.below hb9
        have Iq9 : Hid (OwnJ (w5.heap.size) (.slice Ib m2 Id) a' w9) := Iq8.out.below hb9
        have HB9 : Hid (Below w.heap.size w w9) := HB8.out.trans (hb9.mono HB8.out.size)
        clear gg8 r8 ee8 s8 x8 i8 S8 Sq8 X8 Xq8 I8 Iq8 HB8
        have E9 : Hid (OwnI w8.heap.size (.slice Ea n1 Ec) z1 w9) := own9
        have Eq9 : Hid (OwnI w8.heap.size (.slice Eb n2 Ed) z2 w9) := pwn9
        have NE : Hid (Ea = none → Ec = 0) := own9.nil
        have ME : Hid (Eb = none → Ed = 0) := pwn9.nil
        have CE : Hid (n1 ≤ Ec) := own9.capI
        have SZE : Hid (w8.heap.size ≤ w9.heap.size) := hb9.size
        clear own9 pwn9 ap9
        clear hb9
        go_wp2_with fail
        refine stepQ_normal ⟨⟨r9, x9⟩, ?_⟩
        go_wp2_with fail
        refine (eqReady_is HZ1.out HZ2.out X9.out Xq9.out E9.out Eq9.out (by omega) (by omega)).mono ?_
        rintro e w10 ⟨rfl, hb10⟩
        have gg10 := keep_block hb10 gg9 (lt_of_block gg9)
        have r10 := keep_block hb10 r9 (lt_of_block r9)
        have ee10 := keep_block hb10 ee9 (lt_of_block ee9)
        have s10 := keep_block hb10 s9 (lt_of_block s9)
        have x10 := keep_block hb10 x9 (lt_of_block x9)
        have i10 := keep_block hb10 i9 (lt_of_block i9)
        have S10 : Hid (OwnI (w2.heap.size) (.slice Sa n1 Sc) l' w10) := S9.out.below hb10
        have Sq10 : Hid (OwnJ (w2.heap.size) (.slice Sb m2 Sd) a' w10) := Sq9.out.below hb10
        have X10 : Hid (OwnI w3.heap.size (.slice Xa n1 Xc) z1 w10) := X9.out.below hb10
        have Xq10 : Hid (OwnI w3.heap.size (.slice Xb n2 Xd) z2 w10) := Xq9.out.below hb10
        have I10 : Hid (OwnI (w5.heap.size) (.slice Ia n1 Ic) l' w10) := I9.out.below hb10
        have Iq10 : Hid (OwnJ (w5.heap.size) (.slice Ib m2 Id) a' w10) := Iq9.out.below hb10
        have E10 : Hid (OwnI w8.heap.size (.slice Ea n1 Ec) z1 w10) := E9.out.below hb10
        have Eq10 : Hid (OwnI w8.heap.size (.slice Eb n2 Ed) z2 w10) := Eq9.out.below hb10
        have HB10 : Hid (Below w.heap.size w w10) := HB9.out.trans (hb10.mono HB9.out.size)
        clear gg9 r9 ee9 s9 x9 i9 S9 Sq9 X9 Xq9 I9 Iq9 E9 Eq9 HB9
        clear hb10
        go_wp2_with fail
        refine stepQ_normal ⟨⟨r10, x10⟩, ?_⟩
        go_wp2_with fail
        refine stepQ_normal ⟨trivial, ?_⟩
        clear E10
        clear Eq10
        obtain ⟨vgg0, vgg1, vgg2, vgg3⟩ := cells4 gg10
        obtain ⟨vr0, vr1⟩ := cells2 r10
        obtain ⟨vee0, vee1, vee2, vee3, vee4⟩ := cells5 ee10
        obtain ⟨vs0, vs1⟩ := cells2 s10
        obtain ⟨vx0, vx1⟩ := cells2 x10
        obtain ⟨vi0, vi1⟩ := cells2 i10
        go_wp2_with fail
        clear vgg0 vgg1 vgg2 vgg3 vr0 vr1 vee0 vee1 vee2 vee3 vee4 vs0 vs1 vx0 vx1 vi0 vi1
        have hSB := HSB.out
        have hXL := HXL.out
        have hXS := HXS.out
        have hXQ := HXQ.out
        have hIG := HIG.out
        have loI := I10.out.lo
        have loJ := Iq10.out.lo
        have hiq := lt_of_block i10
        obtain ⟨gi, gk, hg1, hg2, hx1, hx2, hsz, hBi, hBk, hother⟩ := pick_rd (B := w3.heap.size) X10.out Xq10.out APX.out (Nat.le_refl _) (Nat.le_refl _) (by omega)
        have hII : ∀ y, w5.heap.size ≤ y → y < w10.heap.size → y ≠ gi ∧ y ≠ gk := fun y h1 h2 => hother y h2 (fun x hx => by have := hXL.1 x hx; omega) (fun x hx => by have := hXL.2 x hx; omega)
        refine (markReady_is HZ1.out HZ2.out X10.out Xq10.out 1 (by omega) gi gk hg1 hg2 hx1 hx2 hsz).mono ?_
        rintro e w11 ⟨rfl, M', Mq', ho11⟩
        have gg11 := (ho11.block _ (lt_of_block gg10) (by omega) (by omega)).trans gg10
        have r11 := (ho11.block _ (lt_of_block r10) (by omega) (by omega)).trans r10
        have ee11 := (ho11.block _ (lt_of_block ee10) (by omega) (by omega)).trans ee10
        have s11 := (ho11.block _ (lt_of_block s10) (by omega) (by omega)).trans s10
        have hoi := hII iP hIG.1 hiq
        have i11 := (ho11.block _ hiq hoi.1 hoi.2).trans i10
        have S11 : Hid (OwnI (w2.heap.size) (.slice Sa n1 Sc) l' w11) := S10.out.keep2 ho11 (fun x hx => by have := hSB.2.2.1 x hx; omega) (fun x hx => by have := hSB.2.2.1 x hx; omega)
        have Sq11 : Hid (OwnJ (w2.heap.size) (.slice Sb m2 Sd) a' w11) := Sq10.out.keep2 ho11 (fun x hx => by have := hSB.2.2.2 x hx; omega) (fun x hx => by have := hSB.2.2.2 x hx; omega)
        have I11 : Hid (OwnI (w5.heap.size) (.slice Ia n1 Ic) l' w11) := I10.out.keep2 ho11 (fun x hx => (hII _ (loI x hx).1 (loI x hx).2).1) (fun x hx => (hII _ (loI x hx).1 (loI x hx).2).2)
        have Iq11 : Hid (OwnJ (w5.heap.size) (.slice Ib m2 Id) a' w11) := Iq10.out.keep2 ho11 (fun x hx => (hII _ (loJ x hx).1 (loJ x hx).2).1) (fun x hx => (hII _ (loJ x hx).1 (loJ x hx).2).2)
        have HB11 : Hid (Below w.heap.size w w11) := HB10.out.trans (ho11.below (by omega) (by omega) HB10.out.size)
        obtain ⟨em, hem⟩ : ∃ u : Int, ((1 + n1 + n2 : Nat) : Int) = u := ⟨_, rfl⟩
        have tem : decide (em < 0) = false := decide_eq_false (by omega)
        (try simp only [hem])
        clear gg10 r10 ee10 s10 i10 x10 S10 Sq10 I10 Iq10 X10 Xq10 HB10 ho11 M' Mq' hSB hXL hXS hXQ hIG loI loJ hiq hg1 hg2 hx1 hx2 hsz hBi hBk hother hII hoi hem
        obtain ⟨vgg0, vgg1, vgg2, vgg3⟩ := cells4 gg11
        obtain ⟨vr0, vr1⟩ := cells2 r11
        obtain ⟨vee0, vee1, vee2, vee3, vee4⟩ := cells5 ee11
        obtain ⟨vs0, vs1⟩ := cells2 s11
        obtain ⟨vi0, vi1⟩ := cells2 i11
        go_wp2_with fail
        clear vgg0 vgg1 vgg2 vgg3 vr0 vr1 vee0 vee1 vee2 vee3 vee4 vs0 vs1 vi0 vi1
        refine (eqReady_row HLL.out HM2.out I11.out.row Iq11.out.row S11.out.row Sq11.out.row (by omega) (by omega)).mono ?_
        rintro e w12 ⟨rfl, hb12⟩
        have gg12 := keep_block hb12 gg11 (lt_of_block gg11)
        have r12 := keep_block hb12 r11 (lt_of_block r11)
        have ee12 := keep_block hb12 ee11 (lt_of_block ee11)
        have s12 := keep_block hb12 s11 (lt_of_block s11)
        have i12 := keep_block hb12 i11 (lt_of_block i11)
        have S12 : Hid (OwnI (w2.heap.size) (.slice Sa n1 Sc) l' w12) := S11.out.below hb12
        have Sq12 : Hid (OwnJ (w2.heap.size) (.slice Sb m2 Sd) a' w12) := Sq11.out.below hb12
        have I12 : Hid (OwnI (w5.heap.size) (.slice Ia n1 Ic) l' w12) := I11.out.below hb12
        have Iq12 : Hid (OwnJ (w5.heap.size) (.slice Ib m2 Id) a' w12) := Iq11.out.below hb12
        have HB12 : Hid (Below w.heap.size w w12) := HB11.out.trans (hb12.mono HB11.out.size)
        clear gg11 r11 ee11 s11 i11 S11 Sq11 I11 Iq11 HB11
        clear hb12
        obtain ⟨vgg0, vgg1, vgg2, vgg3⟩ := cells4 gg12
        obtain ⟨vr0, vr1⟩ := cells2 r12
        obtain ⟨vee0, vee1, vee2, vee3, vee4⟩ := cells5 ee12
        obtain ⟨vs0, vs1⟩ := cells2 s12
        obtain ⟨vi0, vi1⟩ := cells2 i12
        go_wp2_with fail
        clear vgg0 vgg1 vgg2 vgg3 vr0 vr1 vee0 vee1 vee2 vee3 vee4 vs0 vs1 vi0 vi1
        have hSB := HSB.out
        have hXL := HXL.out
        have hXS := HXS.out
        have hIG := HIG.out
        have hsx : w3.heap.size ≤ w5.heap.size := by have := HXQ.out; omega
        have hap1 := I12.out.apartRd i12
        have hap2 := Iq12.out.apartRj i12
        obtain ⟨gi, gk, hg1, hg2, hx1, hx2, hsz, hBi, hBk, hother⟩ := pick_rj (B := w5.heap.size) I12.out Iq12.out API.out (Nat.le_refl _) (Nat.le_refl _) (by have := lt_of_block i12; omega)
        refine (markReady_j HLL.out HM2.out I12.out Iq12.out 1 (by omega) gi gk hg1 hg2 hx1 hx2 hsz).mono ?_
        rintro e w13 ⟨rfl, M', Mq', ho13⟩
        have gg13 := (ho13.block _ (lt_of_block gg12) (by omega) (by omega)).trans gg12
        have r13 := (ho13.block _ (lt_of_block r12) (by omega) (by omega)).trans r12
        have ee13 := (ho13.block _ (lt_of_block ee12) (by omega) (by omega)).trans ee12
        have s13 := (ho13.block _ (lt_of_block s12) (by omega) (by omega)).trans s12
        have hoi := hother iP (lt_of_block i12) hap1 hap2
        have i13 := (ho13.block _ (lt_of_block i12) hoi.1 hoi.2).trans i12
        have S13 : Hid (OwnI (w2.heap.size) (.slice Sa n1 Sc) l' w13) := S12.out.keep2 ho13 (fun x hx => by have := hSB.2.2.1 x hx; omega) (fun x hx => by have := hSB.2.2.1 x hx; omega)
        have Sq13 : Hid (OwnJ (w2.heap.size) (.slice Sb m2 Sd) a' w13) := Sq12.out.keep2 ho13 (fun x hx => by have := hSB.2.2.2 x hx; omega) (fun x hx => by have := hSB.2.2.2 x hx; omega)
        have M13 : Hid (OwnI w5.heap.size (.slice Ia n1 Ic) (marksI 1 n1) w13) := M'
        have Mq13 : Hid (OwnJ w5.heap.size (.slice Ib m2 Id) (marksI (1 + n1) m2) w13) := Mq'
        have HB13 : Hid (Below w.heap.size w w13) := HB12.out.trans (ho13.below (by omega) (by omega) HB12.out.size)
        have HH : Hid (∀ u : World, OwnI w5.heap.size (.slice Ia n1 Ic) (marksI 1 n1) u → OwnJ w5.heap.size (.slice Ib m2 Id) (marksI (1 + n1) m2) u → Calls Try.prog 27 #[.agg #[.slice Ia n1 Ic, .slice Ib m2 Id], .int .i64 ((1 : Nat) : Int)] u (Gives (.int .i64 ((1 + n1 + m2 : Nat) : Int)) u)) := fun u h h' => heldReady_row 1 h.row h'.row (by omega)
        have km0 : 0 ≤ ((1 + n1 + m2 : Nat) : Int) := by omega
        obtain ⟨km, hkm⟩ : ∃ u : Int, ((1 + n1 + m2 : Nat) : Int) = u := ⟨_, rfl⟩
        rw [hkm] at km0 HH
        (try simp only [hkm])
        have tkm : (km != km) = false := by simp
        have tkn : decide (km < 0) = false := decide_eq_false (by omega)
        clear gg12 r12 ee12 s12 i12 S12 Sq12 I12 Iq12 HB12 ho13 M' Mq' hSB hXL hXS hIG hsx hap1 hap2 hg1 hg2 hx1 hx2 hsz hBi hBk hother hoi hkm
        obtain ⟨vgg0, vgg1, vgg2, vgg3⟩ := cells4 gg13
        obtain ⟨vr0, vr1⟩ := cells2 r13
        obtain ⟨vee0, vee1, vee2, vee3, vee4⟩ := cells5 ee13
        obtain ⟨vs0, vs1⟩ := cells2 s13
        obtain ⟨vi0, vi1⟩ := cells2 i13
        go_wp2_with fail
        clear vgg0 vgg1 vgg2 vgg3 vr0 vr1 vee0 vee1 vee2 vee3 vee4 vs0 vs1 vi0 vi1
        refine (HH.out _ M13.out Mq13.out).mono ?_
        rintro e w14 ⟨rfl, hb14⟩
        have gg14 := keep_block hb14 gg13 (lt_of_block gg13)
        have r14 := keep_block hb14 r13 (lt_of_block r13)
        have ee14 := keep_block hb14 ee13 (lt_of_block ee13)
        have s14 := keep_block hb14 s13 (lt_of_block s13)
        have i14 := keep_block hb14 i13 (lt_of_block i13)
        have S14 : Hid (OwnI (w2.heap.size) (.slice Sa n1 Sc) l' w14) := S13.out.below hb14
        have Sq14 : Hid (OwnJ (w2.heap.size) (.slice Sb m2 Sd) a' w14) := Sq13.out.below hb14
        have M14 : Hid (OwnI w5.heap.size (.slice Ia n1 Ic) (marksI 1 n1) w14) := M13.out.below hb14
        have Mq14 : Hid (OwnJ w5.heap.size (.slice Ib m2 Id) (marksI (1 + n1) m2) w14) := Mq13.out.below hb14
        have HB14 : Hid (Below w.heap.size w w14) := HB13.out.trans (hb14.mono HB13.out.size)
        clear gg13 r13 ee13 s13 i13 S13 Sq13 M13 Mq13 HB13
        clear hb14
        go_wp2_with fail
        refine wp_region_flowV (fun k => match k with | 0 => some (.agg #[.int .i64 ea, .int .i64 eb, .int .i64 ec, .int .i64 ed]) | 1 => some (.agg #[.int .i64 ea, .int .i64 eb, .int .i64 ec, .int .i64 ed]) | 2 => some (.agg #[.slice a1 n1 c1, .slice a2 n2 c2]) | 4 => some (.agg #[.int .i64 ev.t, .int .i64 ev.k, .int .i64 ev.x, .int .i64 ev.y, .int .i64 ev.z]) | 5 => some (.agg #[.int .i64 ev.t, .int .i64 ev.k, .int .i64 ev.x, .int .i64 ev.y, .int .i64 ev.z]) | _ => none) (fun listed x u => FactW 3 6 (fun q u => ∃ aa ca ab cb, q = .agg #[.slice aa n1 ca, .slice ab n2 cb] ∧ OwnI w14.heap.size (.slice aa n1 ca) z1 u ∧ OwnI w14.heap.size (.slice ab n2 cb) z2 u) listed x u ∧ FactW 6 8 (fun q u => ∃ aa ca ab cb, q = .agg #[.slice aa n1 ca, .slice ab m2 cb] ∧ OwnI w14.heap.size (.slice aa n1 ca) l' u ∧ OwnJ w14.heap.size (.slice ab m2 cb) a' u ∧ Apt aa ab) listed x u ∧ MadeJ 7 8 (w14.heap.size) n1 m2 l' a' listed x u) (fun _ => undef) (by kernel_rfl) (by kernel_rfl) ?hxR4 ?hSR4 ?hsR4 ?heR4
        case hxR4 => simp only [putsX, Act.put, List.setIfInBounds_toArray, List.set_cons_zero, List.set_cons_succ]
        case hSR4 => exact ⟨FactW.zero _ _ _ _ _ _, FactW.zero _ _ _ _ _ _, MadeJ.zero _ _ _ _ _ _ _ _ _ _⟩
        case hsR4 =>
          simp only [flowSteps]
          refine ⟨?sR4_0, ?sR4_1, ?sR4_2, ?sR4_3, ?sR4_4, ?sR4_5, ?sR4_6, ?sR4_7, ?sR4_8, trivial⟩
          case sR4_0 =>
            intro listed bb u hsz hn hwt hinv
            obtain ⟨x, rfl, hC, hU, hR, hO, hM⟩ := hinv
            simp only [putsX, Act.put, List.setIfInBounds_toArray, List.set_cons_zero, List.set_cons_succ]
            obtain ⟨c0, c1', c2', c3⟩ := cells4 (keep_block hC gg14 (lt_of_block gg14))
            go_wp2_with fail
            refine stepQ_normal ⟨trivial, upd x 0 (.agg #[.int .i64 ea, .int .i64 eb, .int .i64 ec, .int .i64 ed]), ?_, hC, hU.step (fun _ h => Option.some.inj h), hR.keep (by decide) (by decide) _ id, hO.keep (by decide) (by decide) _ id, hM.keep (by decide) (by decide) _ (Below.refl _ _)⟩
            simp only [upd]
            rfl
          case sR4_1 =>
            intro listed bb u hsz hn hwt hinv
            obtain ⟨x, rfl, hC, hU, hR, hO, hM⟩ := hinv
            have f0 := Lib.hid (hU 0 _ rfl (hwt 0 (by kernel_rfl)))
            simp only [putsX, Act.put, List.setIfInBounds_toArray, List.set_cons_zero, List.set_cons_succ]
            have hcall : Calls Try.prog 19 #[x 0] u (Gives (.agg #[.int .i64 ea, .int .i64 eb, .int .i64 ec, .int .i64 ed]) u) := by rw [f0.out]; exact toGeometry_any _ _ _ _ _
            go_wp2_with fail
            refine hcall.mono ?_
            rintro e' u' ⟨rfl, hb⟩
            go_wp2_with fail
            refine stepQ_normal ⟨trivial, upd x 1 (.agg #[.int .i64 ea, .int .i64 eb, .int .i64 ec, .int .i64 ed]), ?_, hC.trans (hb.mono hC.size), hU.step (fun _ h => Option.some.inj h), hR.keep (by decide) (by decide) _ (fun ⟨b1, b2, b3, b4, b5, b6, b7⟩ => ⟨b1, b2, b3, b4, b5, b6.below (hb), b7.below (hb)⟩), hO.keep (by decide) (by decide) _ (fun ⟨b1, b2, b3, b4, b5, b6, b7, b8⟩ => ⟨b1, b2, b3, b4, b5, b6.below (hb), b7.below (hb), b8⟩), hM.keep (by decide) (by decide) _ (hb)⟩
            simp only [upd]
            rfl
          case sR4_2 =>
            intro listed bb u hsz hn hwt hinv
            obtain ⟨x, rfl, hC, hU, hR, hO, hM⟩ := hinv
            simp only [putsX, Act.put, List.setIfInBounds_toArray, List.set_cons_zero, List.set_cons_succ]
            obtain ⟨d0, d1⟩ := cells2 (keep_block hC r14 (lt_of_block r14))
            go_wp2_with fail
            refine stepQ_normal ⟨trivial, upd x 2 (.agg #[.slice a1 n1 c1, .slice a2 n2 c2]), ?_, hC, hU.step (fun _ h => Option.some.inj h), hR.keep (by decide) (by decide) _ id, hO.keep (by decide) (by decide) _ id, hM.keep (by decide) (by decide) _ (Below.refl _ _)⟩
            simp only [upd]
            rfl
          case sR4_3 =>
            intro listed bb u hsz hn hwt hinv
            obtain ⟨x, rfl, hC, hU, hR, hO, hM⟩ := hinv
            have f2 := Lib.hid (hU 2 _ rfl (hwt 2 (by kernel_rfl)))
            simp only [putsX, Act.put, List.setIfInBounds_toArray, List.set_cons_zero, List.set_cons_succ]
            have hrr := HR0.out u (HB14.out.trans (hC.mono HB14.out.size))
            have hcall : Calls Try.prog 30 #[x 2] u (GivesRd n1 n2 z1 z2 u) := by rw [f2.out]; exact toReady_is _ _ _ _ _ _ _ _ HZ1.out (by omega) HZ2.out (by omega) _ hrr.1 hrr.2
            go_wp2_with fail
            refine hcall.mono ?_
            rintro e' u' ⟨aa, ca, ab, cb, rfl, own1, own2, _, hb⟩
            go_wp2_with fail
            refine stepQ_normal ⟨trivial, upd x 3 (.agg #[.slice aa n1 ca, .slice ab n2 cb]), ?_, hC.trans (hb.mono hC.size), hU.step (fun _ h => by cases h), FactW.new ⟨aa, ca, ab, cb, rfl, own1.mono hC.size, own2.mono hC.size⟩, hO.keep (by decide) (by decide) _ (fun ⟨b1, b2, b3, b4, b5, b6, b7, b8⟩ => ⟨b1, b2, b3, b4, b5, b6.below (hb), b7.below (hb), b8⟩), hM.keep (by decide) (by decide) _ (hb)⟩
            simp only [upd]
            rfl
          case sR4_4 =>
            intro listed bb u hsz hn hwt hinv
            obtain ⟨x, rfl, hC, hU, hR, hO, hM⟩ := hinv
            simp only [putsX, Act.put, List.setIfInBounds_toArray, List.set_cons_zero, List.set_cons_succ]
            obtain ⟨e0, e1, e2, e3, e4⟩ := cells5 (keep_block hC ee14 (lt_of_block ee14))
            go_wp2_with fail
            refine stepQ_normal ⟨trivial, upd x 4 (.agg #[.int .i64 ev.t, .int .i64 ev.k, .int .i64 ev.x, .int .i64 ev.y, .int .i64 ev.z]), ?_, hC, hU.step (fun _ h => Option.some.inj h), hR.keep (by decide) (by decide) _ id, hO.keep (by decide) (by decide) _ id, hM.keep (by decide) (by decide) _ (Below.refl _ _)⟩
            simp only [upd]
            rfl
          case sR4_5 =>
            intro listed bb u hsz hn hwt hinv
            obtain ⟨x, rfl, hC, hU, hR, hO, hM⟩ := hinv
            have f4 := Lib.hid (hU 4 _ rfl (hwt 4 (by kernel_rfl)))
            simp only [putsX, Act.put, List.setIfInBounds_toArray, List.set_cons_zero, List.set_cons_succ]
            have hcall : Calls Try.prog 33 #[x 4] u (Gives (.agg #[.int .i64 ev.t, .int .i64 ev.k, .int .i64 ev.x, .int .i64 ev.y, .int .i64 ev.z]) u) := by rw [f4.out]; exact toEvent_is _ _ _ _ _ _
            go_wp2_with fail
            refine hcall.mono ?_
            rintro e' u' ⟨rfl, hb⟩
            go_wp2_with fail
            refine stepQ_normal ⟨trivial, upd x 5 (.agg #[.int .i64 ev.t, .int .i64 ev.k, .int .i64 ev.x, .int .i64 ev.y, .int .i64 ev.z]), ?_, hC.trans (hb.mono hC.size), hU.step (fun _ h => Option.some.inj h), hR.keep (by decide) (by decide) _ (fun ⟨b1, b2, b3, b4, b5, b6, b7⟩ => ⟨b1, b2, b3, b4, b5, b6.below (hb), b7.below (hb)⟩), hO.keep (by decide) (by decide) _ (fun ⟨b1, b2, b3, b4, b5, b6, b7, b8⟩ => ⟨b1, b2, b3, b4, b5, b6.below (hb), b7.below (hb), b8⟩), hM.keep (by decide) (by decide) _ (hb)⟩
            simp only [upd]
            rfl
          case sR4_6 =>
            intro listed bb u hsz hn hwt hinv
            obtain ⟨x, rfl, hC, hU, hR, hO, hM⟩ := hinv
            have f1 := Lib.hid (hU 1 _ rfl (hwt 1 (by kernel_rfl)))
            have f5 := Lib.hid (hU 5 _ rfl (hwt 5 (by kernel_rfl)))
            simp only [putsX, Act.put, List.setIfInBounds_toArray, List.set_cons_zero, List.set_cons_succ]
            obtain ⟨aa, ca, ab, cb, fp, ow1, ow2⟩ := hR (hwt 3 (by kernel_rfl)) hn
            have hcall : Calls Try.prog 15 #[x 1, x 3, x 5] u (GivesRj n1 m2 l' a' u) := by rw [fp, f1.out, f5.out]; exact IMPL.out ea eb ec ed N HN.out aa n1 ca z1 ab n2 cb z2 ev l' a' m2 HLP.out HAP.out HM2.out HZ1.out (by omega) HZ2.out (by omega) ow1.nil ow2.nil ow1.capI _ ow1.row ow2.row
            clear fp
            go_wp2_with fail
            refine hcall.mono ?_
            rintro e' u' ⟨Ya, Yc, Yb, Yd, rfl, own1, own2, ap, hb⟩
            go_wp2_with fail
            refine stepQ_normal ⟨trivial, upd x 6 (.agg #[.slice Ya n1 Yc, .slice Yb m2 Yd]), ?_, hC.trans (hb.mono hC.size), hU.step (fun _ h => by cases h), FactW.call (by rw [hsz]; decide), FactW.new ⟨Ya, Yc, Yb, Yd, rfl, own1.mono hC.size, own2.mono hC.size, ap⟩, hM.keep (by decide) (by decide) _ (hb)⟩
            simp only [upd]
            rfl
          case sR4_7 =>
            intro listed bb u hsz hn hwt hinv
            obtain ⟨x, rfl, hC, hU, hR, hO, hM⟩ := hinv
            simp only [putsX, Act.put, List.setIfInBounds_toArray, List.set_cons_zero, List.set_cons_succ]
            go_wp2_with fail
            refine stepQ_normal ⟨trivial, upd x 7 (.pointer (some ⟨u.heap.size, 0, none⟩)), ?_, hC.alloc hC.size _, hU.step (fun _ h => by cases h), hR.keep (by decide) (by decide) _ (fun ⟨b1, b2, b3, b4, b5, b6, b7⟩ => ⟨b1, b2, b3, b4, b5, b6.below (below_allocI _), b7.below (below_allocI _)⟩), hO.keep (by decide) (by decide) _ (fun ⟨b1, b2, b3, b4, b5, b6, b7, b8⟩ => ⟨b1, b2, b3, b4, b5, b6.below (below_allocI _), b7.below (below_allocI _), b8⟩), hM.new (by decide) hn hC.size⟩
            simp only [upd]
            rfl
          case sR4_8 =>
            intro listed bb u hsz hn hwt hinv
            obtain ⟨x, rfl, hC, hU, hR, hO, hM⟩ := hinv
            simp only [putsX, Act.put, List.setIfInBounds_toArray, List.set_cons_zero, List.set_cons_succ]
            obtain ⟨g, fg, hg, hh⟩ := hM.there (hwt 7 (by kernel_rfl)) hn
            obtain ⟨aa, ca, ab, cb, fp, o1, o2, hap⟩ := hO (hwt 6 (by kernel_rfl)) hn
            have FG := Lib.hid fg
            have FP := Lib.hid fp
            rw [FG.out, FP.out]
            obtain ⟨y0, y1⟩ := cells2 hh
            have t0 := thawed hh 0
            have t1 := thawed hh 1
            have hne1 := o1.apartRd hh
            have hne2 := o2.apartRj hh
            have hfin := set_cells (set_cells hh 0 (.slice aa n1 ca)) 1 (.slice ab m2 cb)
            have O1 := Lib.hid (ownI_same (ownI_same o1 (fun x hx => Below.heap_setCell u ⟨g, 0, none⟩ (.slice aa n1 ca) _ (hne1 x hx))) (fun x hx => Below.heap_setCell _ ⟨g, 1, none⟩ (.slice ab m2 cb) _ (hne1 x hx)))
            have O2 := Lib.hid ((o2.same (fun x hx => Below.heap_setCell u ⟨g, 0, none⟩ (.slice aa n1 ca) _ (hne2 x hx))).same (fun x hx => Below.heap_setCell _ ⟨g, 1, none⟩ (.slice ab m2 cb) _ (hne2 x hx)))
            clear hh fg fp o1 o2 hne1 hne2
            go_wp2_with fail
            refine stepQ_normal ⟨trivial, upd x 8 undef, ?_, (hC.setCell (by exact hg) _).setCell (by exact hg) _, hU.step (fun _ h => by cases h), FactW.gone (hwt 6 (by kernel_rfl)), FactW.call (by rw [hsz]; decide), MadeJ.fill (by decide) (hwt 7 (by kernel_rfl)) (by rw [hsz]; decide) FG.out hg hfin O1.out O2.out hap⟩
            simp only [upd]
            simp only [FG.out, FP.out]
            (try rfl)

        case heR4 =>
          intro listed q w15 hall hC hU hS
          obtain ⟨hR, hO, hM⟩ := hS
          obtain ⟨jP, Ja, Jc, Jb, Jd, fg, hg, hh, o1, o2, hap⟩ := hM.full (hall 7 (by decide)) (hall 8 (by decide))
          simp only [putsX, Act.put, List.setIfInBounds_toArray, List.set_cons_zero, List.set_cons_succ]
          rw [fg]
          clear hall hU hR hO hM fg
          generalize q 0 = _q0, q 1 = _q1, q 2 = _q2, q 3 = _q3, q 4 = _q4, q 5 = _q5, q 6 = _q6
          have gg15 := keep_block hC gg14 (lt_of_block gg14)
          have r15 := keep_block hC r14 (lt_of_block r14)
          have ee15 := keep_block hC ee14 (lt_of_block ee14)
          have s15 := keep_block hC s14 (lt_of_block s14)
          have i15 := keep_block hC i14 (lt_of_block i14)
          have S15 : Hid (OwnI (w2.heap.size) (.slice Sa n1 Sc) l' w15) := S14.out.below hC
          have Sq15 : Hid (OwnJ (w2.heap.size) (.slice Sb m2 Sd) a' w15) := Sq14.out.below hC
          have M15 : Hid (OwnI w5.heap.size (.slice Ia n1 Ic) (marksI 1 n1) w15) := M14.out.below hC
          have Mq15 : Hid (OwnJ w5.heap.size (.slice Ib m2 Id) (marksI (1 + n1) m2) w15) := Mq14.out.below hC
          have HB15 : Hid (Below w.heap.size w w15) := HB14.out.trans (hC.mono HB14.out.size)
          have j15 := hh
          have J15 : Hid (OwnI (w14.heap.size) (.slice Ja n1 Jc) l' w15) := o1
          have Jq15 : Hid (OwnJ (w14.heap.size) (.slice Jb m2 Jd) a' w15) := o2
          have APJ := Lib.hid hap
          have HJG : Hid (w14.heap.size ≤ jP ∧ w14.heap.size ≤ w15.heap.size) := ⟨hg, hC.size⟩
          clear hh o1 o2 hap hg
          clear gg14 r14 ee14 s14 i14 S14 Sq14 M14 Mq14 HB14
          clear hC
          obtain ⟨vgg0, vgg1, vgg2, vgg3⟩ := cells4 gg15
          obtain ⟨vr0, vr1⟩ := cells2 r15
          obtain ⟨vee0, vee1, vee2, vee3, vee4⟩ := cells5 ee15
          obtain ⟨vs0, vs1⟩ := cells2 s15
          obtain ⟨vi0, vi1⟩ := cells2 i15
          obtain ⟨vj0, vj1⟩ := cells2 j15
          go_wp2_with fail
          clear vgg0 vgg1 vgg2 vgg3 vr0 vr1 vee0 vee1 vee2 vee3 vee4 vs0 vs1 vi0 vi1 vj0 vj1
          refine (eqReady_row HLL.out HM2.out J15.out.row Jq15.out.row S15.out.row Sq15.out.row (by omega) (by omega)).mono ?_
          rintro e w16 ⟨rfl, hb16⟩
          have gg16 := keep_block hb16 gg15 (lt_of_block gg15)
          have r16 := keep_block hb16 r15 (lt_of_block r15)
          have ee16 := keep_block hb16 ee15 (lt_of_block ee15)
          have s16 := keep_block hb16 s15 (lt_of_block s15)
          have i16 := keep_block hb16 i15 (lt_of_block i15)
          have j16 := keep_block hb16 j15 (lt_of_block j15)
          have S16 : Hid (OwnI (w2.heap.size) (.slice Sa n1 Sc) l' w16) := S15.out.below hb16
          have Sq16 : Hid (OwnJ (w2.heap.size) (.slice Sb m2 Sd) a' w16) := Sq15.out.below hb16
          have M16 : Hid (OwnI w5.heap.size (.slice Ia n1 Ic) (marksI 1 n1) w16) := M15.out.below hb16
          have Mq16 : Hid (OwnJ w5.heap.size (.slice Ib m2 Id) (marksI (1 + n1) m2) w16) := Mq15.out.below hb16
          have J16 : Hid (OwnI (w14.heap.size) (.slice Ja n1 Jc) l' w16) := J15.out.below hb16
          have Jq16 : Hid (OwnJ (w14.heap.size) (.slice Jb m2 Jd) a' w16) := Jq15.out.below hb16
          have HB16 : Hid (Below w.heap.size w w16) := HB15.out.trans (hb16.mono HB15.out.size)
          clear gg15 r15 ee15 s15 i15 j15 S15 Sq15 M15 Mq15 J15 Jq15 HB15
          clear hb16
          obtain ⟨vgg0, vgg1, vgg2, vgg3⟩ := cells4 gg16
          obtain ⟨vr0, vr1⟩ := cells2 r16
          obtain ⟨vee0, vee1, vee2, vee3, vee4⟩ := cells5 ee16
          obtain ⟨vs0, vs1⟩ := cells2 s16
          obtain ⟨vi0, vi1⟩ := cells2 i16
          obtain ⟨vj0, vj1⟩ := cells2 j16
          go_wp2_with fail
          clear vgg0 vgg1 vgg2 vgg3 vr0 vr1 vee0 vee1 vee2 vee3 vee4 vs0 vs1 vi0 vi1 vj0 vj1
          refine (HH.out _ M16.out Mq16.out).mono ?_
          rintro e w17 ⟨rfl, hb17⟩
          have gg17 := keep_block hb17 gg16 (lt_of_block gg16)
          have r17 := keep_block hb17 r16 (lt_of_block r16)
          have ee17 := keep_block hb17 ee16 (lt_of_block ee16)
          have s17 := keep_block hb17 s16 (lt_of_block s16)
          have i17 := keep_block hb17 i16 (lt_of_block i16)
          have j17 := keep_block hb17 j16 (lt_of_block j16)
          have S17 : Hid (OwnI (w2.heap.size) (.slice Sa n1 Sc) l' w17) := S16.out.below hb17
          have Sq17 : Hid (OwnJ (w2.heap.size) (.slice Sb m2 Sd) a' w17) := Sq16.out.below hb17
          have M17 : Hid (OwnI w5.heap.size (.slice Ia n1 Ic) (marksI 1 n1) w17) := M16.out.below hb17
          have Mq17 : Hid (OwnJ w5.heap.size (.slice Ib m2 Id) (marksI (1 + n1) m2) w17) := Mq16.out.below hb17
          have J17 : Hid (OwnI (w14.heap.size) (.slice Ja n1 Jc) l' w17) := J16.out.below hb17
          have Jq17 : Hid (OwnJ (w14.heap.size) (.slice Jb m2 Jd) a' w17) := Jq16.out.below hb17
          have HB17 : Hid (Below w.heap.size w w17) := HB16.out.trans (hb17.mono HB16.out.size)
          clear gg16 r16 ee16 s16 i16 j16 S16 Sq16 M16 Mq16 J16 Jq16 HB16
          clear hb17
          go_wp2
          go_ret
          exact ⟨rfl, HB17.out⟩

end Go.Proofs.Ythplhjdfajhmpaa
