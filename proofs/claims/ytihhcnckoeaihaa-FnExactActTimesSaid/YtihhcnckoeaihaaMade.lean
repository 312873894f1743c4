/-
  A region that draws its order and lays one new variable: operations that read or call what makes memory of its own; the variable is made at any time among them, filled behind them, and the rest stands in a forced order. One walk in the order of the text serves every order.
-/
import Derived.Test.YtihhcnckoeaihaaTail
namespace Go.Proofs.Ytihhcnckoeaihaa
open Go.RowKit

/-- What stays true whatever new blocks are made. -/
def Firm (F : World → Prop) : Prop := ∀ w w', F w → Below w.heap.size w w' → F w'

/-- A world behind w that keeps the blocks of w and meets F. -/
structure LaterF (w : World) (F : World → Prop) where
  to : World
  ok : Below w.heap.size w to
  fact : F to

theorem LaterF.cell {w : World} {F : World → Prop} (z : LaterF w F) {p : Addr} {v : Value} (h : w.cell? p = some v) : z.to.cell? p = some v :=
  (z.ok.cell (World.block_lt_of_cell? _ _ h)).trans h

theorem Gives.laterF {P : Program} {f : FuncId} {args : Array Value} {w : World} {F : World → Prop} {v : Value} (hF : Firm F) (z : LaterF w F) (h : Calls P f args z.to (Gives v z.to)) :
    Calls P f args z.to fun e w'' => e = .returned v ∧ ∃ z' : LaterF w F, w'' = z'.to :=
  h.mono fun _ w'' ⟨he, hb⟩ => ⟨he, ⟨w'', z.ok.trans (hb.mono z.ok.size), hF _ _ z.fact hb⟩, rfl⟩

theorem Gives.laterF_same {P : Program} {f : FuncId} {args : Array Value} {w : World} {F : World → Prop} {v : Value} (z : LaterF w F) (h : Calls P f args z.to fun e w' => e = .returned v ∧ z.to = w') :
    Calls P f args z.to fun e w'' => e = .returned v ∧ ∃ z' : LaterF w F, w'' = z'.to :=
  h.mono fun _ _ ⟨he, hb⟩ => ⟨he, z, hb.symm⟩

section
variable {P : Program} {ops : Array Oper} {C : World → Prop}

theorem exec_agree (o : Oper) (hs : ∀ cs b, o.op ≠ .select cs b) {a b : Act} (h : ∀ d ∈ o.looksAt ops, a.tmps[d]? = b.tmps[d]?) : execOp a.eval o = execOp b.eval o :=
  execOp_congr o hs fun x hx => by
    cases x with
    | tmp t =>
      have : t ∈ o.looksAt ops := List.mem_append_left _ (List.mem_filterMap.2 ⟨.tmp t, by simpa using hx, rfl⟩)
      simp only [Act.eval]
      rw [Array.getD_eq_getD_getElem?, Array.getD_eq_getD_getElem?, h t this]
    | _ => rfl

theorem wanted_agree (o : Oper) {a b : Act} (h : ∀ d ∈ o.looksAt ops, a.tmps[d]? = b.tmps[d]?) : Region.wanted o (yielded ops a.tmps) = Region.wanted o (yielded ops b.tmps) := by
  unfold Region.wanted
  cases hg : o.guard with
  | none => rfl
  | some gw =>
    obtain ⟨g, want⟩ := gw
    have hy : yielded ops a.tmps g = yielded ops b.tmps g := by
      unfold yielded
      cases ht : (ops[g]?).bind (·.dst) with
      | none => rfl
      | some t =>
        have := h t (by simp [Oper.looksAt, hg, ht])
        simp only [Option.bind_some, this]
    simp only [hy]

theorem put_tmps (a : Act) (dst : Option Tmp) (v : Value) (d : Tmp) : (a.put dst v).tmps[d]? = if dst = some d then (if d < a.tmps.size then some v else none) else a.tmps[d]? := by
  cases dst with
  | none => simp [Act.put]
  | some e =>
    by_cases h : e = d
    · subst h
      simp [Act.put, Array.getElem?_setIfInBounds]
    · simp [Act.put, Array.getElem?_setIfInBounds_ne h, h]

theorem put_size (a : Act) (dst : Option Tmp) (v : Value) : (a.put dst v).tmps.size = a.tmps.size := by
  cases dst <;> simp [Act.put]

theorem put_defers (a : Act) (dst : Option Tmp) (v : Value) : (a.put dst v).defers = a.defers := by
  cases dst <;> rfl

/-- What one walk in the order of the text leaves as it was. -/
theorem walk_keeps {A : Act} : ∀ (l : List Oper) (a : Act), wpQuiet P ops C (fun a' => a' = A) l a →
    A.tmps.size = a.tmps.size ∧ A.defers = a.defers ∧ ∀ d, (∀ o ∈ l, o.dst ≠ some d) → A.tmps[d]? = a.tmps[d]?
  | [], a, h => by
    have : a = A := h
    subst this
    exact ⟨rfl, rfl, fun _ _ => rfl⟩
  | o :: l, a, h => by
    have key : ∃ v, wpQuiet P ops C (fun a' => a' = A) l (a.put o.dst v) := by
      unfold wpQuiet at h
      split at h
      · obtain ⟨v, _, h2⟩ := h; exact ⟨v, h2⟩
      · exact ⟨_, h⟩
    obtain ⟨v, hv⟩ := key
    obtain ⟨h1, h2, h3⟩ := walk_keeps l _ hv
    refine ⟨h1.trans (put_size _ _ _), h2.trans (put_defers _ _ _), fun d hd => ?_⟩
    rw [h3 d (fun o' ho' => hd o' (List.mem_cons_of_mem _ ho')), put_tmps, if_neg (hd o (List.mem_cons_self ..))]

/-- At the frame that the walk ends in, an operation of the walk yields what stands there in its slot. -/
def Settled (P : Program) (ops : Array Oper) (C : World → Prop) (A : Act) (o : Oper) : Prop :=
  (Region.wanted o (yielded ops A.tmps) = true ∧ ∃ v, (∀ d, o.dst = some d → d < A.tmps.size → A.tmps[d]? = some v) ∧ ∀ w, C w → o.quietAt P A C w v) ∨
  (Region.wanted o (yielded ops A.tmps) = false ∧ ∀ d, o.dst = some d → d < A.tmps.size → A.tmps[d]? = some undef)

theorem walk_settles {A : Act} (hsel : ∀ (o : Oper), o ∈ ops → ∀ cs b, o.op ≠ .select cs b) : ∀ (l : List Oper) (a : Act), wpQuiet P ops C (fun a' => a' = A) l a → (∀ o ∈ l, o ∈ ops) →
    (∀ (i : Nat) (o : Oper), l[i]? = some o → ∀ (j : Nat) (o' : Oper), i ≤ j → l[j]? = some o' → ∀ d ∈ o.looksAt ops, o'.dst ≠ some d) →
    (∀ (i j : Nat) (o o' : Oper), i < j → l[i]? = some o → l[j]? = some o' → ∀ d, o.dst = some d → o'.dst ≠ some d) → ∀ o ∈ l, Settled P ops C A o
  | [], _, _, _, _, _ => fun o ho => by cases ho
  | o :: l, a, h, hin, hlook, hdst => by
    have keep : ∀ d ∈ o.looksAt ops, A.tmps[d]? = a.tmps[d]? := by
      obtain ⟨_, _, h3⟩ := walk_keeps _ _ h
      intro d hd
      refine h3 d fun o' ho' => ?_
      obtain ⟨j, hj, rfl⟩ := List.getElem_of_mem ho'
      exact hlook 0 o rfl j _ (Nat.zero_le _) (List.getElem?_eq_getElem hj) d hd
    have hw := wanted_agree o keep
    have he := exec_agree o (hsel o (hin o (List.mem_cons_self ..))) keep
    have slot : ∀ v, wpQuiet P ops C (fun a' => a' = A) l (a.put o.dst v) → ∀ d, o.dst = some d → d < A.tmps.size → A.tmps[d]? = some v := by
      intro v hv d hd hlt
      obtain ⟨h1, _, h3⟩ := walk_keeps _ _ hv
      rw [put_size] at h1
      rw [h3 d (fun o' ho' => by
        obtain ⟨j, hj, rfl⟩ := List.getElem_of_mem ho'
        exact hdst 0 (j + 1) o _ (Nat.succ_pos _) rfl (by simp [hj]) d hd), put_tmps, if_pos hd, if_pos (show d < a.tmps.size from h1 ▸ hlt)]
    have rest : ∀ v, wpQuiet P ops C (fun a' => a' = A) l (a.put o.dst v) → ∀ o' ∈ l, Settled P ops C A o' := fun v hv =>
      walk_settles hsel l _ hv (fun o' ho' => hin o' (List.mem_cons_of_mem _ ho'))
        (fun i oi hi j oj hij hj => hlook (i + 1) oi (by simpa using hi) (j + 1) oj (by omega) (by simpa using hj))
        (fun i j oi oj hij hi hj => hdst (i + 1) (j + 1) oi oj (by omega) (by simpa using hi) (by simpa using hj))
    unfold wpQuiet at h
    intro o' ho'
    split at h
    · rename_i hwa
      obtain ⟨v, h1, h2⟩ := h
      rcases List.mem_cons.1 ho' with rfl | hm
      · refine .inl ⟨hw.trans hwa, v, slot v h2, fun w hCw => ?_⟩
        have := h1 w hCw
        unfold Oper.quietAt at this ⊢
        rwa [he]
      · exact rest v h2 o' hm
    · rename_i hwa
      rcases List.mem_cons.1 ho' with rfl | hm
      · exact .inr ⟨hw.trans (by simpa using hwa), slot _ h⟩
      · exact rest _ h o' hm

/-- A settled operation, carried out in a frame that agrees in what it looks at. -/
theorem Settled.step {A a : Act} {o : Oper} {i : Nat} {w : World} {K : Act → World → Prop} {Q : Exit → Act → World → Prop} (hi : ops[i]? = some o) (hs : ∀ cs b, o.op ≠ .select cs b) (h : Settled P ops C A o)
    (hag : ∀ d ∈ o.looksAt ops, a.tmps[d]? = A.tmps[d]?) (hCw : C w)
    (hK : ∀ v w', C w' → (∀ d, o.dst = some d → d < A.tmps.size → A.tmps[d]? = some v) → K (a.put o.dst v) w') : wpOp P ops Q i K a w := by
  unfold wpOp
  simp only [hi]
  rw [wanted_agree o hag]
  rcases h with ⟨hw, v, hv, hq⟩ | ⟨hw, hv⟩
  · simp only [hw, if_true]
    left
    have h3 := hq w hCw
    unfold Oper.quietAt at h3
    rw [← exec_agree o hs hag] at h3
    unfold Oper.wp
    generalize (execOp a.eval o).run P w = r at *
    cases r with
    | ok n w' =>
      cases n <;> simp only [Oper.quietUpon] at h3 <;> simp only [Oper.upon]
      case value u => obtain ⟨e1, e2⟩ := h3; rw [e1, e2]; exact hK v w hCw hv
      case skip => obtain ⟨e1, e2⟩ := h3; rw [e1, ← e2]; exact hK v w hCw hv
      case enter f args =>
        obtain ⟨e1, hc⟩ := h3
        rw [e1]
        exact hc.mono fun e w'' ⟨he, hw''⟩ => by subst he; exact hK v w'' hw'' hv
    | halt x w' => simp only [Oper.quietUpon] at h3
  · simp only [hw, Bool.false_eq_true, if_false]
    exact hK undef w hCw hv

end

/-- The region has this form: m operations; the m-th makes a variable, the next fills it; what is left waits for all of these, and then for each other. -/
def formed (ops : Array Oper) (m : Nat) : Bool :=
  Region.noSelect ops && decide (m + 1 < ops.size) &&
  ((List.range ops.size).all fun i => (List.range ops.size).all fun j => i == j || (((ops[i]?).bind (·.dst)).isNone || ((ops[i]?).bind (·.dst)) != ((ops[j]?).bind (·.dst)))) &&
  ((List.range m).all fun i => (List.range ops.size).all fun k => match (ops[k]?).bind (·.dst) with
    | some d => !((ops[i]?).any fun o => (o.looksAt ops).contains d) || (decide (k < i) && Region.waitsFor .any ops i k)
    | none => true) &&
  ((List.range ops.size).all fun k => match (ops[k]?).bind (·.dst) with
    | some d => !((ops[m + 1]?).any fun o => (o.looksAt ops).contains d) || (decide (k ≤ m) && Region.waitsFor .any ops (m + 1) k)
    | none => true) &&
  Region.waitsFor .any ops (m + 1) m &&
  ((List.range (m + 2)).all fun i => (ops[i]?).all fun o => o.after.all fun e => !Region.binds .any e || decide (e.on < i)) &&
  (decide (ops.size ≤ m + 2) || (List.range (m + 2)).all fun i => Region.waitsFor .any ops (m + 2) i) &&
  ((List.range ops.size).all fun t => decide (t ≤ m + 2) || Region.waitsFor .any ops t (t - 1)) &&
  Region.seqB .any ops (ops.size - (m + 2)) (m + 2) (Array.replicate (m + 2) true ++ Array.replicate (ops.size - (m + 2)) false)

structure Formed (ops : Array Oper) (m : Nat) : Prop where
  sel : ∀ (j : Nat) (o : Oper) cs b, ops[j]? = some o → o.op ≠ .select cs b
  lt : m + 1 < ops.size
  apart : ∀ (i j : Nat) (o o' : Oper) (d : Tmp), i ≠ j → ops[i]? = some o → ops[j]? = some o' → o.dst = some d → o'.dst ≠ some d
  looks : ∀ (i k : Nat) (o o' : Oper) (d : Tmp), i < m → ops[i]? = some o → ops[k]? = some o' → o'.dst = some d → d ∈ o.looksAt ops → k < i ∧ Region.waitsFor .any ops i k = true
  fills : ∀ (k : Nat) (o o' : Oper) (d : Tmp), ops[m + 1]? = some o → ops[k]? = some o' → o'.dst = some d → d ∈ o.looksAt ops → k ≤ m ∧ Region.waitsFor .any ops (m + 1) k = true
  fill : Region.waitsFor .any ops (m + 1) m = true
  back : ∀ (i : Nat) (o : Oper), i < m + 2 → ops[i]? = some o → ∀ e ∈ o.after, Region.binds .any e = true → e.on < i
  first : ∀ i, m + 2 < ops.size → i < m + 2 → Region.waitsFor .any ops (m + 2) i = true
  chain : ∀ t, m + 2 < t → t < ops.size → Region.waitsFor .any ops t (t - 1) = true
  seq : Region.seqB .any ops (ops.size - (m + 2)) (m + 2) (Array.replicate (m + 2) true ++ Array.replicate (ops.size - (m + 2)) false) = true

theorem formed_spec {ops : Array Oper} {m : Nat} (h : formed ops m = true) : Formed ops m := by
  unfold formed at h
  simp only [Bool.and_eq_true, List.all_eq_true, List.mem_range, decide_eq_true_eq, Bool.or_eq_true] at h
  obtain ⟨⟨⟨⟨⟨⟨⟨⟨⟨h1, h2⟩, h3⟩, h4⟩, h5⟩, h6⟩, h7⟩, h8⟩, h9⟩, h10⟩ := h
  have inb : ∀ {i : Nat} {o : Oper}, ops[i]? = some o → i < ops.size := fun h => (Array.getElem?_eq_some_iff.1 h).1
  refine ⟨fun j o cs b ho => Region.noSelect_spec h1 j o cs b ho, h2, ?_, ?_, ?_, h6, ?_, ?_, ?_, h10⟩
  · intro i j o o' d hij ho ho' hd hd'
    have := h3 i (inb ho) j (inb ho')
    simp [ho, ho', hd, hd', hij] at this
  · intro i k o o' d hi ho ho' hd hm
    have := h4 i hi k (inb ho')
    simp only [ho, ho', Option.bind_some, hd, Option.any_some, Bool.or_eq_true, Bool.and_eq_true, decide_eq_true_eq, Bool.not_eq_true'] at this
    rcases this with h | h
    · exact absurd (List.contains_iff_mem.2 hm) (by rw [h]; simp)
    · exact h
  · intro k o o' d ho ho' hd hm
    have := h5 k (inb ho')
    simp only [ho, ho', Option.bind_some, hd, Option.any_some, Bool.or_eq_true, Bool.and_eq_true, decide_eq_true_eq, Bool.not_eq_true'] at this
    rcases this with h | h
    · exact absurd (List.contains_iff_mem.2 hm) (by rw [h]; simp)
    · exact h
  · intro i o hi ho e he hb
    have := h7 i hi
    simp only [ho, Option.all_some, Array.all_eq_true_iff_forall_mem, Bool.or_eq_true, Bool.not_eq_true', decide_eq_true_eq] at this
    rcases this e he with h | h
    · rw [hb] at h; cases h
    · exact h
  · intro i hlt hi
    rcases h8 with h | h
    · omega
    · exact h i hi
  · intro t ht hlt
    rcases h9 t hlt with h | h
    · omega
    · exact h

theorem get_in {listed : Array Bool} {j : Nat} (h : j < listed.size) : listed.getD j true = listed.getD j false := by simp [h]

theorem get_set_same {listed : Array Bool} {i : Nat} (d : Bool) (h : i < listed.size) : (listed.setIfInBounds i true).getD i d = true := by simp [h]

/-- How many of the first n have not come up. -/
def left (n : Nat) (listed : Array Bool) : Nat := (List.range n).countP fun j => !listed.getD j true

theorem left_set {listed : Array Bool} {i : Nat} (hu : listed.getD i true = false) : ∀ n, i < n → left n (listed.setIfInBounds i true) + 1 = left n listed := by
  have hi : i < listed.size := by
    rcases Nat.lt_or_ge i listed.size with h | h
    · exact h
    · simp [Array.getElem?_eq_none h] at hu
  have same : ∀ n, n ≤ i → left n (listed.setIfInBounds i true) = left n listed := fun n hn => by
    unfold left
    refine List.countP_congr fun j hj => ?_
    rw [getD_set_ne true (by have := List.mem_range.1 hj; omega)]
  intro n
  induction n with
  | zero => intro h; omega
  | succ n ih =>
    intro h
    unfold left
    rw [List.range_succ, List.countP_append, List.countP_append, List.countP_singleton, List.countP_singleton]
    by_cases hn : i = n
    · subst hn
      have := same i (Nat.le_refl _)
      unfold left at this
      rw [this, get_set_same true hi, hu]
      simp
    · have := ih (by omega)
      unfold left at this
      rw [getD_set_ne true hn]
      omega

theorem left_zero {n : Nat} {listed : Array Bool} (h : left n listed = 0) : ∀ j, j < n → listed.getD j true = true := fun j hj => by
  unfold left at h
  have := List.countP_eq_zero.1 h j (List.mem_range.2 hj)
  simpa using this

theorem left_least {n : Nat} {listed : Array Bool} (h : left n listed ≠ 0) : ∃ i, i < n ∧ listed.getD i true = false ∧ ∀ j, j < i → listed.getD j true = true := by
  have h1 : ∃ i, i < n ∧ listed.getD i true = false := by
    refine Classical.byContradiction fun hno => h ?_
    unfold left
    rw [List.countP_eq_zero]
    intro j hj
    cases hg : listed.getD j true with
    | true => simp
    | false => exact absurd ⟨j, List.mem_range.1 hj, hg⟩ hno
  obtain ⟨i, hi, hu⟩ := h1
  induction i using Nat.strongRecOn with
  | _ i ih =>
    by_cases hb : ∃ j, j < i ∧ listed.getD j true = false
    · obtain ⟨j, hj, hjf⟩ := hb
      exact ih j hj (by omega) hjf
    · refine ⟨i, hi, hu, fun j hj => ?_⟩
      cases hg : listed.getD j true with
      | true => rfl
      | false => exact absurd ⟨j, hj, hg⟩ hb

/-- How far the region has come. -/
structure Mid (ops : Array Oper) (m : Nat) (s : Tmp) (A : Act) (w0 : World) (o0 o1 : Obj) (listed : Array Bool) (a : Act) (w : World) : Prop where
  size : listed.size = ops.size
  tail : ∀ t, m + 2 ≤ t → t < ops.size → listed.getD t true = false
  tmps : a.tmps.size = A.tmps.size
  defers : a.defers = A.defers
  slots : ∀ d, (∀ k o, ops[k]? = some o → o.dst = some d → (k < m ∧ listed.getD k false = true) ∨ m + 2 ≤ k) → a.tmps[d]? = A.tmps[d]?
  later : Below w0.heap.size w0 w
  made : listed.getD m false = true → ∃ g, w0.heap.size ≤ g ∧ a.tmps[s]? = some (.pointer (some ⟨g, 0, none⟩)) ∧ w.heap[g]? = some (if listed.getD (m + 1) false = true then o1 else o0)
  raw : listed.getD m false = false → listed.getD (m + 1) false = false

section
variable {P : Program} {ops : Array Oper} {m : Nat} {s : Tmp} {A : Act} {w0 : World} {o0 o1 : Obj}

/-- One of the first m comes up. -/
theorem Mid.head {listed : Array Bool} {a : Act} {w w' : World} {i : Nat} {o : Oper} {v : Value} (hF : Formed ops m) {oM : Oper} (hm : ops[m]? = some oM) (hms : oM.dst = some s) (h : Mid ops m s A w0 o0 o1 listed a w)
    (him : i < m) (hi : ops[i]? = some o) (hl : Below w0.heap.size w0 w')
    (hk : ∀ g ob, w.heap[g]? = some ob → listed.getD m false = true → w0.heap.size ≤ g → a.tmps[s]? = some (.pointer (some ⟨g, 0, none⟩)) → w'.heap[g]? = some ob)
    (hv : ∀ d, o.dst = some d → d < A.tmps.size → A.tmps[d]? = some v) : Mid ops m s A w0 o0 o1 (listed.setIfInBounds i true) (a.put o.dst v) w' := by
  have hlt := hF.lt
  refine ⟨by simp [h.size], fun t ht htl => by rw [getD_set_ne true (by omega)]; exact h.tail t ht htl, (put_size _ _ _).trans h.tmps, (put_defers _ _ _).trans h.defers, fun d hd => ?_, hl, fun hmm => ?_, fun hmm => ?_⟩
  · rw [put_tmps]
    by_cases hod : o.dst = some d
    · rw [if_pos hod]
      split
      · rename_i hdl
        exact (hv d hod (h.tmps ▸ hdl)).symm
      · rename_i hdl
        rw [h.tmps] at hdl
        exact (Array.getElem?_eq_none (Nat.le_of_not_lt hdl)).symm
    · rw [if_neg hod]
      refine h.slots d fun k ok hok hkd => ?_
      rcases hd k ok hok hkd with ⟨h1, h2⟩ | h1
      · refine .inl ⟨h1, ?_⟩
        have hki : i ≠ k := fun e => hod (by subst e; rw [hi] at hok; cases hok; exact hkd)
        rwa [getD_set_ne false hki] at h2
      · exact .inr h1
  · rw [getD_set_ne false (by omega)] at hmm
    obtain ⟨g, h1, h2, h3⟩ := h.made hmm
    refine ⟨g, h1, ?_, ?_⟩
    · rw [put_tmps, if_neg (fun e => hF.apart m i oM o s (by omega) hm hi hms e)]
      exact h2
    · rw [getD_set_ne false (by omega)]
      exact hk g _ h3 hmm h1 h2
  · rw [getD_set_ne false (by omega)] at hmm ⊢
    exact h.raw hmm

/-- The variable is made. -/
theorem Mid.make {listed : Array Bool} {a : Act} {w : World} (hF : Formed ops m) {oM : Oper} (hm : ops[m]? = some oM) (hms : oM.dst = some s) (hsA : s < A.tmps.size) (h : Mid ops m s A w0 o0 o1 listed a w) (hu : listed.getD m true = false) :
    Mid ops m s A w0 o0 o1 (listed.setIfInBounds m true) (a.put (some s) (.pointer (some ⟨w.heap.size, 0, none⟩))) (w.alloc o0) := by
  have hlt := hF.lt
  have hms' : m < listed.size := by rw [h.size]; omega
  have hu' : listed.getD m false = false := getD_both hu
  refine ⟨by simp [h.size], fun t ht htl => by rw [getD_set_ne true (by omega)]; exact h.tail t ht htl, (put_size _ _ _).trans h.tmps, (put_defers _ _ _).trans h.defers, fun d hd => ?_, h.later.alloc h.later.size _, fun _ => ?_, fun hmm => ?_⟩
  · have hds : s ≠ d := fun e => by
      subst e
      rcases hd m oM hm hms with ⟨h1, _⟩ | h1 <;> omega
    rw [put_tmps, if_neg (fun e => hds (Option.some.inj e))]
    refine h.slots d fun k ok hok hkd => ?_
    rcases hd k ok hok hkd with ⟨h1, h2⟩ | h1
    · rw [getD_set_ne false (by omega)] at h2
      exact .inl ⟨h1, h2⟩
    · exact .inr h1
  · refine ⟨w.heap.size, h.later.size, ?_, ?_⟩
    · rw [put_tmps, if_pos rfl, if_pos (show s < a.tmps.size from h.tmps ▸ hsA)]
    · rw [getD_set_ne false (by omega), h.raw hu', if_neg (by simp)]
      exact heap_alloc_new _ _
  · rw [get_set_same false hms'] at hmm
    cases hmm

/-- The variable is filled. -/
theorem Mid.filled {listed : Array Bool} {a : Act} {w w' : World} (hF : Formed ops m) (h : Mid ops m s A w0 o0 o1 listed a w) {g : Nat} (hg : w0.heap.size ≤ g)
    (hs : a.tmps[s]? = some (.pointer (some ⟨g, 0, none⟩))) (h1 : w'.heap[g]? = some o1) (h2 : ∀ k, k ≠ g → w'.heap[k]? = w.heap[k]?) (h3 : w'.heap.size = w.heap.size) (h4 : w'.os = w.os) (h5 : w'.tape = w.tape) (h6 : w'.output = w.output) (hmm : listed.getD m false = true) :
    Mid ops m s A w0 o0 o1 (listed.setIfInBounds (m + 1) true) a w' := by
  have hlt := hF.lt
  have hms' : m + 1 < listed.size := by rw [h.size]; omega
  refine ⟨by simp [h.size], fun t ht htl => by rw [getD_set_ne true (by omega)]; exact h.tail t ht htl, h.tmps, h.defers, fun d hd => h.slots d fun k ok hok hkd => ?_, ?_, fun _ => ?_, fun hn => ?_⟩
  · rcases hd k ok hok hkd with ⟨h1, h2⟩ | h1
    · rw [getD_set_ne false (by omega)] at h2
      exact .inl ⟨h1, h2⟩
    · exact .inr h1
  · exact h.later.trans ⟨h4, h5, h6, Nat.le_of_eq h3.symm, fun k hk => h2 k (by omega)⟩
  · exact ⟨g, hg, hs, by rw [get_set_same false hms', if_pos rfl]; exact h1⟩
  · rw [getD_set_ne false (by omega), hmm] at hn
    cases hn

/-- Whatever order is drawn. -/
theorem mid_any {Q : Exit → Act → World → Prop} (hF : Formed ops m) {oM oQ : Oper} (hm : ops[m]? = some oM) (hms : oM.dst = some s) (hsA : s < A.tmps.size) (hq : ops[m + 1]? = some oQ) (hqd : oQ.dst = none)
    (hset : ∀ F, Firm F → Nonempty (LaterF w0 F) → ∀ (i : Nat) (o : Oper), i < m → ops[i]? = some o → Settled P ops (fun w' => ∃ z : LaterF w0 F, w' = z.to) A o)
    (hmw : ∀ a : Act, Region.wanted oM (yielded ops a.tmps) = true) (hqw : ∀ a : Act, Region.wanted oQ (yielded ops a.tmps) = true)
    (hal : ∀ a w K, K (a.put (some s) (.pointer (some ⟨w.heap.size, 0, none⟩))) (w.alloc o0) → oM.wp P a w K Q)
    (hfill : ∀ (a : Act) (w : World) (g : Nat) (K : Act → World → Prop), a.tmps[s]? = some (.pointer (some ⟨g, 0, none⟩)) → (∀ d ∈ oQ.looksAt ops, d ≠ s → a.tmps[d]? = A.tmps[d]?) → w.heap[g]? = some o0 →
      (∀ w', w'.heap[g]? = some o1 → (∀ k, k ≠ g → w'.heap[k]? = w.heap[k]?) → w'.heap.size = w.heap.size → w'.os = w.os → w'.tape = w.tape → w'.output = w.output → K a w') → oQ.wp P a w K Q)
    (hend : ∀ g w', Below w0.heap.size w0 w' → w0.heap.size ≤ g → w'.heap[g]? = some o1 → wpList P ops Q (ops.toList.drop (m + 2)) (A.put (some s) (.pointer (some ⟨g, 0, none⟩))) w') :
    ∀ (f : Nat) (listed : Array Bool) (a : Act) (w : World), left (m + 2) listed = f → Mid ops m s A w0 o0 o1 listed a w → wpAny P .any ops Q (f + (ops.size - (m + 2))) listed a w := by
  have hlt := hF.lt
  intro f
  induction f with
  | zero =>
    intro listed a w hf h
    have hall := left_zero hf
    have hfull : listed = Array.replicate (m + 2) true ++ Array.replicate (ops.size - (m + 2)) false := by
      apply Array.ext
      · simp [h.size]; omega
      · intro i h1 h2
        have hd : listed[i] = listed.getD i true := by simp [h1]
        rw [hd]
        by_cases hi : i < m + 2
        · rw [hall i hi, Array.getElem_append_left (by simpa using hi)]; simp
        · rw [h.tail i (by omega) (by rw [← h.size]; exact h1), Array.getElem_append_right (by simp; omega)]; simp
    have hin : ∀ j, j < m + 2 → listed.getD j false = true := fun j hj => by rw [← get_in (by rw [h.size]; omega)]; exact hall j hj
    obtain ⟨g, hg, hsp, hob⟩ := h.made (hin m (by omega))
    rw [hin (m + 1) (by omega), if_pos rfl] at hob
    have ha : a = A.put (some s) (.pointer (some ⟨g, 0, none⟩)) := by
      have e1 : a.tmps = (A.put (some s) (.pointer (some ⟨g, 0, none⟩))).tmps := by
        apply Array.ext_getElem?
        intro d
        rw [put_tmps]
        by_cases hds : s = d
        · subst hds
          rw [if_pos rfl, if_pos hsA]; exact hsp
        · rw [if_neg (fun e => hds (Option.some.inj e))]
          refine h.slots d fun k ok hok hkd => ?_
          by_cases hk : k < m
          · exact .inl ⟨hk, hin k (by omega)⟩
          · refine .inr (Nat.le_of_not_lt fun hk2 => ?_)
            have : k = m ∨ k = m + 1 := by omega
            rcases this with rfl | rfl
            · rw [hm] at hok; cases hok; rw [hms] at hkd; exact hds (Option.some.inj hkd)
            · rw [hq] at hok; cases hok; rw [hqd] at hkd; cases hkd
      have e2 : a.defers = (A.put (some s) (.pointer (some ⟨g, 0, none⟩))).defers := h.defers.trans (put_defers _ _ _).symm
      obtain ⟨t1, t2⟩ := a
      simp only at e1 e2
      rw [e1, e2]
    rw [Nat.zero_add, ha]
    have hdl : (ops.toList.drop (m + 2)).length = ops.size - (m + 2) := by simp
    have := wpAny_of_seq (P := P) (md := .any) (ops := ops) (Q' := Q) (ops.toList.drop (m + 2)) (m + 2) listed (A.put (some s) (.pointer (some ⟨g, 0, none⟩))) w (fun j => by simp [List.getElem?_drop]) (by rw [hdl, hfull]; exact hF.seq) (hend g w h.later hg hob)
    rwa [hdl] at this
  | succ f ih =>
    intro listed a w hf h
    obtain ⟨i0, hi0, hu0, hb0⟩ := left_least (n := m + 2) (listed := listed) (by omega)
    have hin : ∀ j, j < ops.size → listed.getD j true = listed.getD j false := fun j hj => get_in (by rw [h.size]; exact hj)
    have hr0 : i0 ∈ Region.ready .any ops listed := by
      have hi0l : i0 < ops.size := by omega
      refine mem_ready.2 ⟨hu0, ops[i0], Array.getElem?_eq_getElem hi0l, fun e he hb => ?_⟩
      have := hF.back i0 _ hi0 (Array.getElem?_eq_getElem hi0l) e he hb
      rw [← hin e.on (by omega)]
      exact hb0 e.on this
    rw [Nat.add_right_comm]
    refine ⟨fun hno => (by rw [hno] at hr0; cases hr0), fun i hi => ?_⟩
    obtain ⟨hun, oi, hoi, hall⟩ := mem_ready.1 hi
    have hil : i < ops.size := (Array.getElem?_eq_some_iff.1 hoi).1
    have waits : ∀ k, Region.waitsFor .any ops i k = true → listed.getD k false = true := fun k hk => by
      obtain ⟨o', ho', e, he, hb, hon⟩ := Region.waitsFor_spec hk
      rw [hoi] at ho'; cases ho'
      have := hall e he hb
      rwa [hon] at this
    have him2 : i < m + 2 := by
      refine Nat.lt_of_not_le fun hle => ?_
      by_cases hie : i = m + 2
      · subst hie
        have := waits i0 (hF.first i0 hil hi0)
        rw [getD_both hu0] at this; cases this
      · have := waits (i - 1) (hF.chain i (by omega) hil)
        rw [getD_both (h.tail (i - 1) (by omega) (by omega))] at this; cases this
    have hleft : left (m + 2) (listed.setIfInBounds i true) = f := by have := left_set hun (m + 2) him2; omega
    have hbad : ∀ d k o', ops[k]? = some o' → o'.dst = some d → d ∈ oi.looksAt ops → (i < m → (k < m ∧ listed.getD k false = true)) := fun d k o' ho' hd hm' him => by
      obtain ⟨h1, h2⟩ := hF.looks i k oi o' d him hoi ho' hd hm'
      exact ⟨by omega, waits k h2⟩
    by_cases him : i < m
    · -- one of the first m
      have hag : ∀ d ∈ oi.looksAt ops, a.tmps[d]? = A.tmps[d]? := fun d hd => h.slots d fun k o' ho' hkd => .inl (hbad d k o' ho' hkd hd him)
      by_cases hmm : listed.getD m false = true
      · obtain ⟨g, hg, hsp, hob⟩ := h.made hmm
        refine Settled.step (C := fun w' => ∃ z : LaterF w0 (fun u => u.heap[g]? = some (if listed.getD (m + 1) false = true then o1 else o0)), w' = z.to) hoi (fun cs b => hF.sel i oi cs b hoi)
          (hset _ (fun u u' hu hb => (hb.block g (lt_of_block hu)).trans hu) ⟨⟨w, h.later, hob⟩⟩ i oi him hoi) hag ⟨⟨w, h.later, hob⟩, rfl⟩ ?_
        rintro v w' ⟨z, rfl⟩ hv
        refine ih _ _ _ hleft (h.head hF hm hms him hoi z.ok (fun g' ob hg' _ _ hsp' => ?_) hv)
        rw [hsp] at hsp'
        have : g = g' := by simpa using hsp'
        subst this
        rw [hob] at hg'
        cases hg'
        exact z.fact
      · refine Settled.step (C := fun w' => ∃ z : LaterF w0 (fun _ => True), w' = z.to) hoi (fun cs b => hF.sel i oi cs b hoi) (hset _ (fun _ _ _ _ => trivial) ⟨⟨w, h.later, trivial⟩⟩ i oi him hoi) hag ⟨⟨w, h.later, trivial⟩, rfl⟩ ?_
        rintro v w' ⟨z, rfl⟩ hv
        exact ih _ _ _ hleft (h.head hF hm hms him hoi z.ok (fun g' ob _ hl _ _ => absurd hl hmm) hv)
    · by_cases hie : i = m
      · subst hie
        rw [hm] at hoi; cases hoi
        unfold wpOp
        simp only [hm]
        rw [hmw a, if_pos rfl]
        exact .inl (hal a w _ (ih _ _ _ hleft (h.make hF hm hms hsA hun)))
      · obtain rfl : i = m + 1 := by omega
        rw [hq] at hoi; cases hoi
        have hmm := waits m hF.fill
        obtain ⟨g, hg, hsp, hob⟩ := h.made hmm
        rw [getD_both hun, if_neg (by simp)] at hob
        unfold wpOp
        simp only [hq]
        rw [hqw a, if_pos rfl]
        refine .inl (hfill a w g _ hsp (fun d hd hds => h.slots d fun k o' ho' hkd => ?_) hob fun w' h1 h2 h3 h4 h5 h6 => ih _ _ _ hleft (h.filled hF hg hsp h1 h2 h3 h4 h5 h6 hmm))
        obtain ⟨h1, h2⟩ := hF.fills k oQ o' d hq ho' hkd hd
        have hkm : k ≠ m := fun e => by subst e; rw [hm] at ho'; cases ho'; rw [hms] at hkd; exact hds (Option.some.inj hkd).symm
        exact .inl ⟨by omega, waits k h2⟩

end

theorem setRow_same (w : World) (g : Nat) (cs old : Array Value) (t : TypeId) (h : w.heap[g]? = some (.cells old t (0, 0))) : (w.setRow g cs).heap[g]? = some (.cells cs t (0, 0)) := by
  have hlt := lt_of_block h
  have h' : w.heap[g] = .cells old t (0, 0) := by simpa [Array.getElem?_eq_getElem hlt] using h
  show (w.heap.modify g _)[g]? = _
  rw [Array.getElem?_eq_getElem (by simpa using hlt), Array.getElem_modify_self, h']

theorem setRow_other (w : World) (g k : Nat) (cs : Array Value) (h : k ≠ g) : (w.setRow g cs).heap[k]? = w.heap[k]? := by
  show (w.heap.modify g _)[k]? = _
  rw [Array.getElem?_modify, if_neg (fun e => h e.symm)]

/-- One walk serves every order. -/
theorem wp_region_made {P : Program} {id : Nat} {Q : Exit → Act → World → Prop} {a : Act} {w : World} {l : List Oper} (m : Nat) (hmo : P.follows .mixedOrders = true) (hB : formed l.toArray m = true)
    {s x : Tmp} {ty tM tQ : TypeId} {pM pQ : String} {eM eQ : Array Edge} {zero cells : Array Value} {A : Act}
    (hM : l[m]? = some ⟨some s, .alloc ty, tM, pM, eM, none⟩) (hQ : l[m + 1]? = some ⟨none, .store ty (.tmp s) (.tmp x), tQ, pQ, eQ, none⟩)
    (hwalk : ∀ F, Firm F → Nonempty (LaterF w F) → wpQuiet P l.toArray (fun w' => ∃ z : LaterF w F, w' = z.to) (fun a' => a' = A) (l.take m) a)
    (hx : A.eval (.tmp x) = .agg cells) (hxs : x ≠ s) (hsA : s < A.tmps.size)
    (hal : ∀ (a : Act) (w : World) (K : Act → World → Prop), K (a.put (some s) (.pointer (some ⟨w.heap.size, 0, none⟩))) (w.alloc (.cells zero ty)) → Oper.wp P ⟨some s, .alloc ty, tM, pM, eM, none⟩ a w K Q)
    (hi : (P.info? ty).map (·.size) = some cells.size) (ho : zero.size = cells.size) (h1 : cells.all (·.oneCell') = true)
    (hend : ∀ g w', Below w.heap.size w w' → w.heap.size ≤ g → w'.heap[g]? = some (.cells cells ty (0, 0)) → wpList P l.toArray Q (l.drop (m + 2)) (A.put (some s) (.pointer (some ⟨g, 0, none⟩))) w') :
    (Code.region id l.toArray true).wp P Q a w := by
  have hF := formed_spec hB
  have hlt := hF.lt
  have hml : m < l.length := by simpa using (by omega : m < l.toArray.size)
  have hM' : l.toArray[m]? = some ⟨some s, .alloc ty, tM, pM, eM, none⟩ := by simpa using hM
  have hQ' : l.toArray[m + 1]? = some ⟨none, .store ty (.tmp s) (.tmp x), tQ, pQ, eQ, none⟩ := by simpa using hQ
  have hat : ∀ (i : Nat) (o : Oper), (l.take m)[i]? = some o → i < m ∧ l.toArray[i]? = some o := fun i o h => by
    have hi : i < m := by
      have := (List.getElem?_eq_some_iff.1 h).1
      simp at this; omega
    rw [List.getElem?_take, if_pos hi] at h
    exact ⟨hi, by simpa using h⟩
  have hset : ∀ F, Firm F → Nonempty (LaterF w F) → ∀ (i : Nat) (o : Oper), i < m → l.toArray[i]? = some o → Settled P l.toArray (fun w' => ∃ z : LaterF w F, w' = z.to) A o := by
    intro F hFF hN i o hi ho
    refine walk_settles (fun o' ho' cs b => ?_) (l.take m) a (hwalk F hFF hN) (fun o' ho' => ?_) (fun i' oi hoi j oj hij hoj d hd hdj => ?_) (fun i' j oi oj hij hoi hoj d hd hdj => ?_) o ?_
    · obtain ⟨j, hj, rfl⟩ := Array.getElem_of_mem ho'
      exact hF.sel j _ cs b (Array.getElem?_eq_getElem hj)
    · have := List.mem_of_mem_take ho'
      simpa using this
    · obtain ⟨h1, h2⟩ := hat _ _ hoi
      have := (hF.looks i' j oi oj d h1 h2 (hat _ _ hoj).2 hdj hd).1
      omega
    · exact hF.apart i' j oi oj d (by omega) (hat _ _ hoi).2 (hat _ _ hoj).2 hd hdj
    · have h2 : (l.take m)[i]? = some o := by rw [List.getElem?_take, if_pos hi]; simpa using ho
      exact List.mem_of_getElem? h2
  obtain ⟨k1, k2, k3⟩ := walk_keeps _ _ (hwalk (fun _ => True) (fun _ _ _ _ => trivial) ⟨⟨w, Below.refl _ _, trivial⟩⟩)
  refine wp_region_any hmo ?_
  have hleft : left (m + 2) (Array.replicate l.toArray.size false) = m + 2 := by
    unfold left
    rw [List.countP_eq_length.2 fun j hj => ?_, List.length_range]
    have : j < l.length := by have := List.mem_range.1 hj; simp at hlt; omega
    simp [this]
  have hmid : Mid l.toArray m s A w (.cells zero ty (0, 0)) (.cells cells ty (0, 0)) (Array.replicate l.toArray.size false) a { w with drawn := w.drawn + 1 } := by
    refine ⟨by simp, fun t _ ht => by simp at ht; simp [ht], k1.symm, k2.symm, fun d hd => (k3 d fun o ho hod => ?_).symm, ⟨rfl, rfl, rfl, Nat.le_refl _, fun _ _ => rfl⟩, fun h => ?_, fun _ => getD_replicate_false _ _⟩
    · obtain ⟨i, hi, rfl⟩ := List.getElem_of_mem ho
      obtain ⟨h1, h2⟩ := hat i _ (List.getElem?_eq_getElem hi)
      rcases hd i _ h2 hod with ⟨_, h3⟩ | h3
      · rw [getD_replicate_false] at h3; cases h3
      · omega
    · rw [getD_replicate_false] at h; cases h
  have R := mid_any (P := P) (Q := Q) (w0 := w) hF hM' rfl hsA hQ' rfl hset (fun _ => rfl) (fun _ => rfl) hal (fun a' w' g K hsp hag hob hK => by
      refine wp_store_row ty (.tmp s) (.tmp x) rfl g cells ?_ ?_ ty zero hob hi ho h1 (hK _ (setRow_same _ _ _ _ _ hob) (fun k hk => setRow_other _ _ _ _ hk) (by simp [World.setRow]) rfl rfl rfl)
      · simp only [Act.eval]
        rw [Array.getD_eq_getD_getElem?, hsp]; rfl
      · rw [← hx]
        simp only [Act.eval]
        rw [Array.getD_eq_getD_getElem?, Array.getD_eq_getD_getElem?, hag x (by simp [Oper.looksAt, Op.operands]) hxs])
    (fun g w' hb hg hob => by simpa using hend g w' hb hg hob) (m + 2) _ a _ hleft hmid
  rw [show m + 2 + (l.toArray.size - (m + 2)) = l.toArray.size by omega] at R
  exact R

end Go.Proofs.Ytihhcnckoeaihaa
