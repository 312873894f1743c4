/-
  Activation opens one bank, and closing it restores the state.
-/
import Derived.Test.YtigoniochamjgaaBnkN
import Derived.Test.YtigoniochamjgaaBnkT
import Derived.Test.YtigoniochamjgaaBnkF
namespace Go.Proofs.Ytigoniochamjgaa
open Go.RowKit

set_option linter.unusedVariables false


set_option maxHeartbeats 2000000 in
theorem sameInts_is {a b : Option Addr} {ca cb : Nat} {l : List Int} {w : World} {n : Nat} (hn : l.length = n) (ha : RowI w a l) (hb : RowI w b l) (hl : (n : Int) ≤ 9223372036854775807) :
    Calls Try.prog 22 #[.slice a n ca, .slice b n cb] w (Gives (.bool true) w) := by
  have HN := Lib.hid hn
  have HA := Lib.hid ha
  have HB := Lib.hid hb
  clear hn ha hb
  go_enter Try.func22, Try.ntmps22
  go_wp2_with fail
  go_loopw [5] (fun i wr => ∃ k : Nat, k ≤ n ∧ i = .int .i64 k ∧ Below w.heap.size w wr) (fun i _ => n - (intOf i).toNat)
  case atStart => exact ⟨0, Nat.zero_le _, rfl, Below.refl _ _⟩
  case round =>
    obtain ⟨k, hk, rfl, hbr⟩ := hrel
    have HBR := Lib.hid hbr
    clear hbr
    by_cases hlt : k < n
    · obtain ⟨ba, oa, rfl, ha0⟩ := (HA.out.below HBR.out).at (k := k) (by rw [HN.out]; exact hlt)
      obtain ⟨bb, ob, rfl, hb0⟩ := (HB.out.below HBR.out).at (k := k) (by rw [HN.out]; exact hlt)
      generalize l.getD k 0 = r at ha0 hb0
      have za0 := fun q : Later wr => q.cell ha0
      have zb0 := fun q : Later wr => q.cell hb0
      have te : (r != r) = false := by simp
      clear ha0 hb0
      go_wp2_with fail
      refine wp_region_later (by kernel_rfl) (by kernel_rfl) ?_
      repeat (go_big_quiet_step (fail))
      refine wpQuiet_nil ?_
      rintro w2 ⟨zz, hz⟩
      have HB2 : Hid (Below w.heap.size w w2) := HBR.out.trans ((hz ▸ zz.ok : Below wr.heap.size wr w2).mono HBR.out.size)
      clear za0 zb0 hz zz
      go_wp2
      go_roundw
      case rel => exact ⟨k + 1, by omega, by go_num, HB2.out⟩
      case measure => simp [intOf]; omega
    · go_wp2_with fail
      go_ret
      exact ⟨rfl, HBR.out⟩


theorem unguard {P : Program} {ops : Array Oper} {Q : Exit → Act → World → Prop} {a : Act} {w : World} {rest : List Oper} {d : Option Tmp} {op : Op} {y : TypeId} {p : String} {af : Array Edge} {gd : Option (Nat × Bool)}
    (hw : Region.wanted ⟨d, op, y, p, af, gd⟩ (yielded ops a.tmps) = true) (h : wpList P ops Q (⟨d, op, y, p, af, none⟩ :: rest) a w) : wpList P ops Q (⟨d, op, y, p, af, gd⟩ :: rest) a w := by
  have h1 : Region.wanted ⟨d, op, y, p, af, none⟩ (yielded ops a.tmps) = true := rfl
  unfold wpList at h ⊢
  rw [if_pos hw]
  rw [if_pos h1] at h
  exact h

theorem guardStep {P : Program} {ops : Array Oper} {Inv : Array Bool → Act → World → Prop} {i : Nat} {d : Option Tmp} {op : Op} {y : TypeId} {p : String} {af : Array Edge} {gd : Option (Nat × Bool)}
    (hg : ∀ (listed : Array Bool) (b : Act) (u : World), listed.size = ops.size → listed.getD i false = false → (∀ k, Region.waitsFor .any ops i k = true → listed.getD k false = true) → Inv listed b u → Region.wanted ⟨d, op, y, p, af, gd⟩ (yielded ops b.tmps) = true)
    (h : flowStep P ops Inv i ⟨d, op, y, p, af, none⟩) : flowStep P ops Inv i ⟨d, op, y, p, af, gd⟩ :=
  fun listed b u h1 h2 h3 h4 => unguard (hg listed b u h1 h2 h3 h4) (h listed b u h1 h2 h3 h4)

theorem rowI_one (w : World) (x : Int) : RowI (w.alloc (.cells #[.int .i64 x] 3)) (some ⟨w.heap.size, 0, none⟩) [x] := by
  refine .inr ⟨_, 0, rfl, fun i hi => ?_⟩
  obtain rfl : i = 0 := by simpa using hi
  exact cell1 (heap_alloc_new w (.cells #[.int .i64 x] 3))


set_option maxHeartbeats 16000000 in
set_option maxRecDepth 100000 in
theorem fnOpened_of (RN : Hid IRankNew) (AF : Hid IRankAfter) (OB : Hid IOpenBanks) (a0 : Option Addr) (len cap : Nat) (zs : List Int) (w : World) (hr : IsRow .u8 w a0 len cap zs) :
    Calls Try.prog 4 #[.slice a0 len cap] w fun e w' => e = .returned (.bool true) ∧ Below w.heap.size w w' := by
  have hl := hr.len_le
  unfold maxLen at hl
  by_cases hbig : (1048576 : Int) < (len : Int)
  · go_enter Try.func4, Try.ntmps4
    go_wp2_with (go_at_call 11; refine (big_any _ _ _ _ (by omega)).mono ?_; rintro e w' ⟨rfl, rfl⟩)
    go_ret
    exact ⟨rfl, Below.refl _ _⟩
  go_enter Try.func4, Try.ntmps4
  go_wp2_with (go_at_call 11; refine (big_any _ _ _ _ (by omega)).mono ?_; rintro e w' ⟨rfl, rfl⟩)
  refine (drawGeometry_any hr).mono ?_
  rintro e w1 ⟨a, b, r, d, rfl, hok, hb1⟩
  have hgeo : GeoOk a b r d := by
    obtain ⟨h1, h2, h4, h5⟩ := hok
    exact ⟨h1, h2, ⟨h4.1, by omega⟩, ⟨h5.1, by omega⟩⟩
  have hr2 : 2 ≤ r ∧ r ≤ 8 := hok.2.2.1
  have HGE := Lib.hid hgeo
  obtain ⟨n, hn⟩ := Int.eq_ofNat_of_zero_le (bankN_range a b r d).1
  have hn1 : 1 ≤ n := by have := bank_pos hgeo; omega
  have hn8 : n ≤ 8 := by have := (bankN_range a b r d).2; omega
  have HN := Lib.hid hn
  have hb2 : Below w1.heap.size w1 (w1.alloc (.cells #[.int .i64 a, .int .i64 b, .int .i64 r, .int .i64 d] 25)) := (Below.refl _ _).alloc (Nat.le_refl _) _
  have g2 := heap_alloc_new w1 (.cells #[.int .i64 a, .int .i64 b, .int .i64 r, .int .i64 d] 25)
  have HB2 : Hid (Below w.heap.size w (w1.alloc (.cells #[.int .i64 a, .int .i64 b, .int .i64 r, .int .i64 d] 25))) := hb1.trans (hb2.mono hb1.size)
  go_wp2_with fail
  clear hb1 hb2 hok hgeo hn
  obtain ⟨G, hG⟩ : ∃ u, w1.heap.size = u := ⟨_, rfl⟩
  generalize (w1.alloc (.cells #[.int .i64 a, .int .i64 b, .int .i64 r, .int .i64 d] 25)) = w2 at g2 HB2 ⊢
  rw [hG] at g2
  (try simp only [hG])
  clear hG
  refine (drawPlaces_any (hr.below (fun x hx hc => hr.lt hx hc) HB2.out)).mono ?_
  rintro e w3 ⟨gp, c2, pl, rfl, hl12, hpp, hown, hb3⟩
  obtain ⟨p0, hc0, p00, p01⟩ := place_at hown hl12 hpp 0 (by omega)
  obtain ⟨p1, hc1, p10, p11⟩ := place_at hown hl12 hpp 1 (by omega)
  have g3 := keep_block hb3 g2 (lt_of_block g2)
  have HB3 : Hid (Below w.heap.size w w3) := HB2.out.trans (hb3.mono HB2.out.size)
  clear hb3 g2 HB2 hown hl12 hpp hr
  obtain ⟨e, he⟩ : ∃ u, p0 % (n : Int) = u := ⟨_, rfl⟩
  have e0 : 0 ≤ e := by rw [← he]; exact Int.emod_nonneg _ (by omega)
  have e1 : e < (n : Int) := by rw [← he]; exact Int.emod_lt_of_pos _ (by omega)
  have te : p0.tmod (n : Int) = e := by rw [Int.tmod_eq_emod_of_nonneg p00, he]
  have we : IntKind.i64.wrap e = e := IntWalk.i64_in _ ⟨by omega, by omega⟩
  obtain ⟨y, hy⟩ : ∃ u, p1 % r = u := ⟨_, rfl⟩
  have y0 : 0 ≤ y := by rw [← hy]; exact Int.emod_nonneg _ (by omega)
  have y1 : y < r := by rw [← hy]; exact Int.emod_lt_of_pos _ (by omega)
  have ty : p1.tmod r = y := by rw [Int.tmod_eq_emod_of_nonneg p10, hy]
  have wy : IntKind.i64.wrap y = y := IntWalk.i64_in _ ⟨by omega, by omega⟩
  have nz : ¬ ((n : Int) = 0) := by omega
  have rz : ¬ (r = 0) := by omega
  have AL1 : Hid (allowR a b r d (List.replicate n bk0) 0 1 e y 0 = true) := open_allowed HGE.out HN.out ⟨e0, e1⟩ ⟨y0, y1⟩
  have AL2 : Hid (allowR a b r d (doL (List.replicate n bk0) 1 e y) 0 4 e 0 0 = true) := close_allowed HGE.out HN.out ⟨e0, e1⟩ ⟨y0, y1⟩
  have CL : Hid (doL (doL (List.replicate n bk0) 1 e y) 4 e 0 = (List.replicate n bk0)) := closed_again
  obtain ⟨j, rfl⟩ := Int.eq_ofNat_of_zero_le e0
  have OP : Hid (openF 0 (doL (List.replicate n bk0) 1 (j : Int) y) = [(j : Int)]) := by
    show openF 0 ((List.replicate n bk0).set ((j : Int)).toNat ⟨true, y⟩) = _
    rw [Int.toNat_natCast, openF_one 0 n j y (by omega), Nat.zero_add]
  obtain ⟨l1, hl1⟩ : ∃ u, doL (List.replicate n bk0) 1 (j : Int) y = u := ⟨_, rfl⟩
  have AF1 : Hid (afterL a b r d (List.replicate n bk0) 0 1 (j : Int) y 0 = l1) := by show _ = _; rw [← hl1]; exact if_pos AL1.out
  have AP1 : Hid (afterP a b r d (List.replicate n bk0) 0 1 (j : Int) y 0 = 0) := if_pos AL1.out
  have LN1 : Hid (l1.length = n) := by show _ = _; rw [← hl1, doL_length, List.length_replicate]
  rw [hl1] at AL2 CL OP
  have AF2 : Hid (afterL a b r d l1 0 4 (j : Int) 0 0 = (List.replicate n bk0)) := by
    show _ = _
    unfold afterL
    rw [if_pos AL2.out]
    exact CL.out
  have AP2 : Hid (afterP a b r d l1 0 4 (j : Int) 0 0 = 0) := if_pos AL2.out
  have OP0 : Hid (openF 0 (List.replicate n bk0) = []) := openF_rep 0 n
  have LN0 : Hid ((List.replicate n bk0).length = n) := List.length_replicate
  clear he hy p00 p01 p10 p11 e0 e1 y0 y1 hr2 hl1 CL
  have zp0 := fun q : Later w3 => q.cell hc0
  obtain ⟨vg0, vg1, vg2, vg3⟩ := cells4 g3
  have zvg0 := fun qq : Later w3 => qq.cell vg0
  have zvg1 := fun qq : Later w3 => qq.cell vg1
  have zvg2 := fun qq : Later w3 => qq.cell vg2
  have zvg3 := fun qq : Later w3 => qq.cell vg3
  clear vg0 vg1 vg2 vg3
  go_wp2_with fail
  refine wp_region_later (by kernel_rfl) (by kernel_rfl) ?_
  repeat (go_big_quiet_step ((go_at_call 20; exact Gives.later _ (specBank_is _ _ _ _ _ HN.out _))))
  refine wpQuiet_nil ?_
  rintro w4 ⟨zz, hzz⟩
  have hb4 : Below w3.heap.size w3 w4 := hzz ▸ zz.ok
  have C1w4 : w4.cell? ⟨gp, 1, none⟩ = some (.int .i64 p1) := keep_cell hb4 hc1 (World.block_lt_of_cell? _ _ hc1)
  have g4 := keep_block hb4 g3 (lt_of_block g3)
  have HB4 : Hid (Below w.heap.size w w4) := HB3.out.trans (hb4.mono HB3.out.size)
  clear g3 HB3
  clear hb4 hzz zz zp0 hc0 hc1 zvg0 zvg1 zvg2 zvg3
  have C4 : Hid (w4.cell? ⟨gp, 1, none⟩ = some (.int .i64 p1)) := C1w4
  clear C1w4
  obtain ⟨vg0, vg1, vg2, vg3⟩ := cells4 g4
  go_wp2_with fail
  clear vg0 vg1 vg2 vg3
  refine (RN.out _ _ _ _ n HN.out _).mono ?_
  rintro e w5 ⟨Ra, Rc, rfl, own5, hb5⟩
  have g5 := keep_block hb5 g4 (lt_of_block g4)
  have HB5 : Hid (Below w.heap.size w w5) := HB4.out.trans (hb5.mono HB4.out.size)
  clear g4 HB4
  have R5 : Hid (RowB w5 Ra (List.replicate n bk0)) := own5.row
  have NR : Hid (Ra = none → Rc = 0) := own5.none
  clear own5
  have C5 : Hid (w5.cell? ⟨gp, 1, none⟩ = some (.int .i64 p1)) := keep_cell hb5 C4.out (World.block_lt_of_cell? _ _ C4.out)
  clear C4
  clear hb5
  have hb6 : Below w5.heap.size w5 (w5.alloc (.cells #[.slice Ra n Rc, .int .i64 0] 28)) := (Below.refl _ _).alloc (Nat.le_refl _) _
  have g6 := keep_block hb6 g5 (lt_of_block g5)
  have R6 : Hid (RowB (w5.alloc (.cells #[.slice Ra n Rc, .int .i64 0] 28)) Ra (List.replicate n bk0)) := R5.out.below hb6
  have r6 := heap_alloc_new w5 (.cells #[.slice Ra n Rc, .int .i64 0] 28)
  have HB6 : Hid (Below w.heap.size w (w5.alloc (.cells #[.slice Ra n Rc, .int .i64 0] 28))) := HB5.out.trans (hb6.mono HB5.out.size)
  have C6 : Hid ((w5.alloc (.cells #[.slice Ra n Rc, .int .i64 0] 28)).cell? ⟨gp, 1, none⟩ = some (.int .i64 p1)) := keep_cell hb6 C5.out (World.block_lt_of_cell? _ _ C5.out)
  go_wp2_with fail
  clear hb6 C5 g5 R5 HB5
  generalize (w5.alloc (.cells #[.slice Ra n Rc, .int .i64 0] 28)) = w6 at g6 R6 r6 HB6 C6 ⊢
  obtain ⟨rP, hrP⟩ : ∃ p, w5.heap.size = p := ⟨_, rfl⟩
  rw [hrP] at r6
  (try simp only [hrP])
  clear hrP
  go_wp2_with fail
  refine wp_region_flowV (fun k => match k with | 0 => some (.agg #[.int .i64 a, .int .i64 b, .int .i64 r, .int .i64 d]) | 1 => some (.agg #[.slice Ra n Rc, .int .i64 0]) | 2 => some (.int .i64 (j : Int)) | 3 => some (.slice (some ⟨gp, 0, none⟩) 12 c2) | 4 => some (.pointer (some ⟨gp, 1, none⟩)) | 5 => some (.int .i64 p1) | 6 => some (.pointer (some ⟨G, 2, none⟩)) | 7 => some (.int .i64 r) | 8 => some (.int .i64 y) | 9 => some (.agg #[.int .i64 1, .int .i64 (j : Int), .int .i64 y, .int .i64 0]) | 13 => some (.bool true) | 16 => some (.bool true) | _ => none) (fun listed x u => FactW 10 11 (fun q u => ∃ aa cc, q = .tuple #[.agg #[.slice aa n cc, .int .i64 0], .bool true] ∧ OwnK (w6.heap.size) (.slice aa n cc) l1 u) listed x u ∧ FactW 11 12 (fun q u => ∃ aa cc, q = .tuple #[.agg #[.slice aa n cc, .int .i64 0], .bool true] ∧ OwnK (w6.heap.size) (.slice aa n cc) l1 u) listed x u ∧ Fact 11 (fun q => ∃ (aa : Option Addr) (cc : Nat), q = .tuple #[.agg #[.slice aa n cc, .int .i64 0], .bool true]) listed x ∧ FactW 12 15 (fun q u => ∃ aa cc, q = .agg #[.slice aa n cc, .int .i64 0] ∧ OwnK (w6.heap.size) (.slice aa n cc) l1 u) listed x u ∧ MadeR 14 15 (w6.heap.size) n (l1) (0) listed x u) (fun _ => undef) (by kernel_rfl) (by kernel_rfl) ?hx1 ?hS1 ?hs1 ?he1
  case hx1 => simp only [putsX, Act.put, List.setIfInBounds_toArray, List.set_cons_zero, List.set_cons_succ]
  case hS1 => exact ⟨FactW.zero _ _ _ _ _ _, FactW.zero _ _ _ _ _ _, Fact.zero _ _ _ _, FactW.zero _ _ _ _ _ _, MadeR.zero _ _ _ _ _ _ _ _ _⟩
  case hs1 =>
    simp only [flowSteps]
    refine ⟨?s1_0, ?s1_1, ?s1_2, ?s1_3, ?s1_4, ?s1_5, ?s1_6, ?s1_7, ?s1_8, ?s1_9, ?s1_10, ?s1_11, ?s1_12, ?s1_13, ?s1_14, ?s1_15, ?s1_16, trivial⟩
    case s1_0 =>
      intro listed bb u hsz hn hwt hinv
      obtain ⟨x, rfl, hC, hU, h6, h7, p7, h8, hM⟩ := hinv
      simp only [putsX, Act.put, List.setIfInBounds_toArray, List.set_cons_zero, List.set_cons_succ]
      obtain ⟨a0, a1, a2, a3⟩ := cells4 (keep_block hC g6 (lt_of_block g6))
      go_wp2_with fail
      refine stepQ_normal ⟨trivial, upd x 0 (.agg #[.int .i64 a, .int .i64 b, .int .i64 r, .int .i64 d]), ?_, hC, hU.step (fun _ h => Option.some.inj h), h6.keep (by decide) (by decide) _ id, h7.keep (by decide) (by decide) _ id, p7.keep (by decide) _, h8.keep (by decide) (by decide) _ id, hM.keep (by decide) (by decide) _ (Below.refl _ _)⟩
      simp only [upd]
      rfl
    case s1_1 =>
      intro listed bb u hsz hn hwt hinv
      obtain ⟨x, rfl, hC, hU, h6, h7, p7, h8, hM⟩ := hinv
      simp only [putsX, Act.put, List.setIfInBounds_toArray, List.set_cons_zero, List.set_cons_succ]
      obtain ⟨a0, a1⟩ := cells2 (keep_block hC r6 (lt_of_block r6))
      go_wp2_with fail
      refine stepQ_normal ⟨trivial, upd x 1 (.agg #[.slice Ra n Rc, .int .i64 0]), ?_, hC, hU.step (fun _ h => Option.some.inj h), h6.keep (by decide) (by decide) _ id, h7.keep (by decide) (by decide) _ id, p7.keep (by decide) _, h8.keep (by decide) (by decide) _ id, hM.keep (by decide) (by decide) _ (Below.refl _ _)⟩
      simp only [upd]
      rfl
    case s1_2 =>
      intro listed bb u hsz hn hwt hinv
      obtain ⟨x, rfl, hC, hU, h6, h7, p7, h8, hM⟩ := hinv
      simp only [putsX, Act.put, List.setIfInBounds_toArray, List.set_cons_zero, List.set_cons_succ]
      go_wp2_with fail
      refine stepQ_normal ⟨trivial, upd x 2 (.int .i64 (j : Int)), ?_, hC, hU.step (fun _ h => Option.some.inj h), h6.keep (by decide) (by decide) _ id, h7.keep (by decide) (by decide) _ id, p7.keep (by decide) _, h8.keep (by decide) (by decide) _ id, hM.keep (by decide) (by decide) _ (Below.refl _ _)⟩
      simp only [upd]
      rfl
    case s1_3 =>
      intro listed bb u hsz hn hwt hinv
      obtain ⟨x, rfl, hC, hU, h6, h7, p7, h8, hM⟩ := hinv
      simp only [putsX, Act.put, List.setIfInBounds_toArray, List.set_cons_zero, List.set_cons_succ]
      go_wp2_with fail
      refine stepQ_normal ⟨trivial, upd x 3 (.slice (some ⟨gp, 0, none⟩) 12 c2), ?_, hC, hU.step (fun _ h => Option.some.inj h), h6.keep (by decide) (by decide) _ id, h7.keep (by decide) (by decide) _ id, p7.keep (by decide) _, h8.keep (by decide) (by decide) _ id, hM.keep (by decide) (by decide) _ (Below.refl _ _)⟩
      simp only [upd]
      rfl
    case s1_4 =>
      intro listed bb u hsz hn hwt hinv
      obtain ⟨x, rfl, hC, hU, h6, h7, p7, h8, hM⟩ := hinv
      have f3 := Lib.hid (hU 3 _ rfl (hwt 3 (by kernel_rfl)))
      simp only [putsX, Act.put, List.setIfInBounds_toArray, List.set_cons_zero, List.set_cons_succ]
      rw [f3.out]
      go_wp2_with fail
      refine stepQ_normal ⟨trivial, upd x 4 (.pointer (some ⟨gp, 1, none⟩)), ?_, hC, hU.step (fun _ h => Option.some.inj h), h6.keep (by decide) (by decide) _ id, h7.keep (by decide) (by decide) _ id, p7.keep (by decide) _, h8.keep (by decide) (by decide) _ id, hM.keep (by decide) (by decide) _ (Below.refl _ _)⟩
      simp only [upd]
      simp only [f3.out]
      (try rfl)
    case s1_5 =>
      intro listed bb u hsz hn hwt hinv
      obtain ⟨x, rfl, hC, hU, h6, h7, p7, h8, hM⟩ := hinv
      have f4 := Lib.hid (hU 4 _ rfl (hwt 4 (by kernel_rfl)))
      simp only [putsX, Act.put, List.setIfInBounds_toArray, List.set_cons_zero, List.set_cons_succ]
      rw [f4.out]
      have a0 := keep_cell hC C6.out (World.block_lt_of_cell? _ _ C6.out)
      go_wp2_with fail
      refine stepQ_normal ⟨trivial, upd x 5 (.int .i64 p1), ?_, hC, hU.step (fun _ h => Option.some.inj h), h6.keep (by decide) (by decide) _ id, h7.keep (by decide) (by decide) _ id, p7.keep (by decide) _, h8.keep (by decide) (by decide) _ id, hM.keep (by decide) (by decide) _ (Below.refl _ _)⟩
      simp only [upd]
      simp only [f4.out]
      (try rfl)
    case s1_6 =>
      intro listed bb u hsz hn hwt hinv
      obtain ⟨x, rfl, hC, hU, h6, h7, p7, h8, hM⟩ := hinv
      simp only [putsX, Act.put, List.setIfInBounds_toArray, List.set_cons_zero, List.set_cons_succ]
      go_wp2_with fail
      refine stepQ_normal ⟨trivial, upd x 6 (.pointer (some ⟨G, 2, none⟩)), ?_, hC, hU.step (fun _ h => Option.some.inj h), h6.keep (by decide) (by decide) _ id, h7.keep (by decide) (by decide) _ id, p7.keep (by decide) _, h8.keep (by decide) (by decide) _ id, hM.keep (by decide) (by decide) _ (Below.refl _ _)⟩
      simp only [upd]
      rfl
    case s1_7 =>
      intro listed bb u hsz hn hwt hinv
      obtain ⟨x, rfl, hC, hU, h6, h7, p7, h8, hM⟩ := hinv
      have f6 := Lib.hid (hU 6 _ rfl (hwt 6 (by kernel_rfl)))
      simp only [putsX, Act.put, List.setIfInBounds_toArray, List.set_cons_zero, List.set_cons_succ]
      rw [f6.out]
      obtain ⟨a0, a1, a2, a3⟩ := cells4 (keep_block hC g6 (lt_of_block g6))
      go_wp2_with fail
      refine stepQ_normal ⟨trivial, upd x 7 (.int .i64 r), ?_, hC, hU.step (fun _ h => Option.some.inj h), h6.keep (by decide) (by decide) _ id, h7.keep (by decide) (by decide) _ id, p7.keep (by decide) _, h8.keep (by decide) (by decide) _ id, hM.keep (by decide) (by decide) _ (Below.refl _ _)⟩
      simp only [upd]
      simp only [f6.out]
      (try rfl)
    case s1_8 =>
      intro listed bb u hsz hn hwt hinv
      obtain ⟨x, rfl, hC, hU, h6, h7, p7, h8, hM⟩ := hinv
      have f5 := Lib.hid (hU 5 _ rfl (hwt 5 (by kernel_rfl)))
      have f7 := Lib.hid (hU 7 _ rfl (hwt 7 (by kernel_rfl)))
      simp only [putsX, Act.put, List.setIfInBounds_toArray, List.set_cons_zero, List.set_cons_succ]
      rw [f5.out]
      rw [f7.out]
      go_wp2_with fail
      refine stepQ_normal ⟨trivial, upd x 8 (.int .i64 y), ?_, hC, hU.step (fun _ h => Option.some.inj h), h6.keep (by decide) (by decide) _ id, h7.keep (by decide) (by decide) _ id, p7.keep (by decide) _, h8.keep (by decide) (by decide) _ id, hM.keep (by decide) (by decide) _ (Below.refl _ _)⟩
      simp only [upd]
      simp only [f5.out, f7.out]
      (try rfl)
    case s1_9 =>
      intro listed bb u hsz hn hwt hinv
      obtain ⟨x, rfl, hC, hU, h6, h7, p7, h8, hM⟩ := hinv
      have f2 := Lib.hid (hU 2 _ rfl (hwt 2 (by kernel_rfl)))
      have f8 := Lib.hid (hU 8 _ rfl (hwt 8 (by kernel_rfl)))
      simp only [putsX, Act.put, List.setIfInBounds_toArray, List.set_cons_zero, List.set_cons_succ]
      rw [f2.out]
      rw [f8.out]
      go_wp2_with fail
      refine stepQ_normal ⟨trivial, upd x 9 (.agg #[.int .i64 1, .int .i64 (j : Int), .int .i64 y, .int .i64 0]), ?_, hC, hU.step (fun _ h => Option.some.inj h), h6.keep (by decide) (by decide) _ id, h7.keep (by decide) (by decide) _ id, p7.keep (by decide) _, h8.keep (by decide) (by decide) _ id, hM.keep (by decide) (by decide) _ (Below.refl _ _)⟩
      simp only [upd]
      simp only [f2.out, f8.out]
      (try rfl)
    case s1_10 =>
      intro listed bb u hsz hn hwt hinv
      obtain ⟨x, rfl, hC, hU, h6, h7, p7, h8, hM⟩ := hinv
      have f0 := Lib.hid (hU 0 _ rfl (hwt 0 (by kernel_rfl)))
      have f1 := Lib.hid (hU 1 _ rfl (hwt 1 (by kernel_rfl)))
      have f9 := Lib.hid (hU 9 _ rfl (hwt 9 (by kernel_rfl)))
      simp only [putsX, Act.put, List.setIfInBounds_toArray, List.set_cons_zero, List.set_cons_succ]
      have hcall : Calls Try.prog 13 #[x 0, x 1, x 9] u (GivesA n l1 0 true u) := by rw [f0.out, f1.out, f9.out]; exact AF.out _ _ _ _ _ _ _ _ _ _ _ _ _ _ _ _ AL1.out AF1.out AP1.out LN0.out (by omega) NR.out _ (R6.out.below hC)
      go_wp2_with fail
      refine hcall.mono ?_
      rintro e u' ⟨ab, cb, rfl, own, hb⟩
      go_wp2_with fail
      refine stepQ_normal ⟨trivial, upd x 10 (.tuple #[.agg #[.slice ab n cb, .int .i64 0], .bool true]), ?_, hC.trans (hb.mono hC.size), hU.step (fun _ h => by cases h), FactW.new ⟨ab, cb, rfl, own.mono hC.size⟩, h7.keep (by decide) (by decide) _ (fun ⟨a1, a2, a3, a4⟩ => ⟨a1, a2, a3, a4.below (hb)⟩), p7.keep (by decide) _, h8.keep (by decide) (by decide) _ (fun ⟨a1, a2, a3, a4⟩ => ⟨a1, a2, a3, a4.below (hb)⟩), hM.keep (by decide) (by decide) _ (hb)⟩
      simp only [upd]
      rfl
    case s1_11 =>
      intro listed bb u hsz hn hwt hinv
      obtain ⟨x, rfl, hC, hU, h6, h7, p7, h8, hM⟩ := hinv
      simp only [putsX, Act.put, List.setIfInBounds_toArray, List.set_cons_zero, List.set_cons_succ]
      obtain ⟨aa, cc, fp, hown⟩ := h6 (hwt 10 (by kernel_rfl)) hn
      go_wp2_with fail
      refine stepQ_normal ⟨trivial, upd x 11 (x 10), ?_, hC, hU.step (fun _ h => by cases h), FactW.call (by rw [hsz]; decide), FactW.new ⟨aa, cc, fp, hown⟩, Fact.new ⟨aa, cc, fp⟩, h8.keep (by decide) (by decide) _ id, hM.keep (by decide) (by decide) _ (Below.refl _ _)⟩
      simp only [upd]
      rfl
    case s1_12 =>
      intro listed bb u hsz hn hwt hinv
      obtain ⟨x, rfl, hC, hU, h6, h7, p7, h8, hM⟩ := hinv
      simp only [putsX, Act.put, List.setIfInBounds_toArray, List.set_cons_zero, List.set_cons_succ]
      obtain ⟨aa, cc, fp, hown⟩ := h7 (hwt 11 (by kernel_rfl)) hn
      have FP := Lib.hid fp
      rw [FP.out]
      clear fp
      go_wp2_with fail
      refine stepQ_normal ⟨trivial, upd x 12 (.agg #[.slice aa n cc, .int .i64 0]), ?_, hC, hU.step (fun _ h => by cases h), h6.keep (by decide) (by decide) _ id, FactW.call (by rw [hsz]; decide), p7.keep (by decide) _, FactW.new ⟨aa, cc, rfl, hown⟩, hM.keep (by decide) (by decide) _ (Below.refl _ _)⟩
      simp only [upd]
      simp only [FP.out]
      (try rfl)
    case s1_13 =>
      intro listed bb u hsz hn hwt hinv
      obtain ⟨x, rfl, hC, hU, h6, h7, p7, h8, hM⟩ := hinv
      simp only [putsX, Act.put, List.setIfInBounds_toArray, List.set_cons_zero, List.set_cons_succ]
      obtain ⟨aa, cc, fp⟩ := p7 (hwt 11 (by kernel_rfl))
      have FP := Lib.hid fp
      rw [FP.out]
      clear fp
      go_wp2_with fail
      refine stepQ_normal ⟨trivial, upd x 13 (.bool true), ?_, hC, hU.step (fun _ h => Option.some.inj h), h6.keep (by decide) (by decide) _ id, h7.keep (by decide) (by decide) _ id, p7.keep (by decide) _, h8.keep (by decide) (by decide) _ id, hM.keep (by decide) (by decide) _ (Below.refl _ _)⟩
      simp only [upd]
      simp only [FP.out]
      (try rfl)
    case s1_14 =>
      intro listed bb u hsz hn hwt hinv
      obtain ⟨x, rfl, hC, hU, h6, h7, p7, h8, hM⟩ := hinv
      simp only [putsX, Act.put, List.setIfInBounds_toArray, List.set_cons_zero, List.set_cons_succ]
      go_wp2_with fail
      refine stepQ_normal ⟨trivial, upd x 14 (.pointer (some ⟨u.heap.size, 0, none⟩)), ?_, hC.alloc hC.size _, hU.step (fun _ h => by cases h), h6.keep (by decide) (by decide) _ (fun ⟨a1, a2, a3, a4⟩ => ⟨a1, a2, a3, a4.below ((Below.refl _ _).alloc (Nat.le_refl _) _)⟩), h7.keep (by decide) (by decide) _ (fun ⟨a1, a2, a3, a4⟩ => ⟨a1, a2, a3, a4.below ((Below.refl _ _).alloc (Nat.le_refl _) _)⟩), p7.keep (by decide) _, h8.keep (by decide) (by decide) _ (fun ⟨a1, a2, a3, a4⟩ => ⟨a1, a2, a3, a4.below ((Below.refl _ _).alloc (Nat.le_refl _) _)⟩), hM.new (by decide) hn hC.size⟩
      simp only [upd]
      rfl
    case s1_15 =>
      intro listed bb u hsz hn hwt hinv
      obtain ⟨x, rfl, hC, hU, h6, h7, p7, h8, hM⟩ := hinv
      simp only [putsX, Act.put, List.setIfInBounds_toArray, List.set_cons_zero, List.set_cons_succ]
      obtain ⟨g, fg, hg, hh⟩ := hM.there (hwt 14 (by kernel_rfl)) hn
      obtain ⟨aa, cc, fp, hown⟩ := h8 (hwt 12 (by kernel_rfl)) hn
      have FG := Lib.hid fg
      have FP := Lib.hid fp
      rw [FG.out, FP.out]
      obtain ⟨y0, y1⟩ := cells2 hh
      have t0 := thawed hh 0
      have t1 := thawed hh 1
      have hne := hown.apart hh
      have hfin := set_cells (set_cells hh 0 (.slice aa n cc)) 1 (.int .i64 0)
      have hown2 := (hown.setCell (p := ⟨g, 0, none⟩) hne (.slice aa n cc)).setCell (p := ⟨g, 1, none⟩) hne (.int .i64 0)
      clear hh fg fp hown hne
      go_wp2_with fail
      refine stepQ_normal ⟨trivial, upd x 15 undef, ?_, (hC.setCell (by exact hg) _).setCell (by exact hg) _, hU.step (fun _ h => by cases h), FactW.gone (hwt 11 (by kernel_rfl)), FactW.gone (hwt 12 (by kernel_rfl)), p7.keep (by decide) _, FactW.call (by rw [hsz]; decide), MadeR.fill (by decide) (hwt 14 (by kernel_rfl)) (by rw [hsz]; decide) FG.out hg hfin hown2⟩
      simp only [upd]
      simp only [FG.out, FP.out]
      (try rfl)
    case s1_16 =>
      intro listed bb u hsz hn hwt hinv
      obtain ⟨x, rfl, hC, hU, h6, h7, p7, h8, hM⟩ := hinv
      have f13 := Lib.hid (hU 13 _ rfl (hwt 13 (by kernel_rfl)))
      simp only [putsX, Act.put, List.setIfInBounds_toArray, List.set_cons_zero, List.set_cons_succ]
      rw [f13.out]
      go_wp2_with fail
      refine stepQ_normal ⟨trivial, upd x 16 (.bool true), ?_, hC, hU.step (fun _ h => Option.some.inj h), h6.keep (by decide) (by decide) _ id, h7.keep (by decide) (by decide) _ id, p7.keep (by decide) _, h8.keep (by decide) (by decide) _ id, hM.keep (by decide) (by decide) _ (Below.refl _ _)⟩
      simp only [upd]
      simp only [f13.out]
      (try rfl)
  case he1 =>
    intro listed q u hall hC hU hS
    obtain ⟨h6, h7, p7, h8, hM⟩ := hS
    obtain ⟨xP, Xa, Xc, fg, hg, hh, hown⟩ := hM.full (hall 14 (by decide)) (hall 15 (by decide))
    have fb := hU 16 _ rfl (hall 16 (by decide))
    simp only [putsX, Act.put, List.setIfInBounds_toArray, List.set_cons_zero, List.set_cons_succ]
    rw [fg, fb]
    clear hall hU h6 h7 p7 h8 hM fg fb
    obtain ⟨w7, rfl⟩ : ∃ v, v = u := ⟨_, rfl⟩
    have g7 := keep_block hC g6 (lt_of_block g6)
    have r7 := keep_block hC r6 (lt_of_block r6)
    have R7 : Hid (RowB w7 Ra (List.replicate n bk0)) := R6.out.below hC
    have HB7 : Hid (Below w.heap.size w w7) := HB6.out.trans (hC.mono HB6.out.size)
    have x7 := hh
    have X7 : Hid (RowB w7 Xa l1) := hown.row
    have NX : Hid (Xa = none → Xc = 0) := hown.none
    clear hh hown hg C6
    clear g6 r6 R6 HB6
    clear hC
    obtain ⟨vg0, vg1, vg2, vg3⟩ := cells4 g7
    obtain ⟨vr0, vr1⟩ := cells2 r7
    obtain ⟨vx0, vx1⟩ := cells2 x7
    go_wp2_with fail
    clear vg0 vg1 vg2 vg3 vr0 vr1 vx0 vx1
    refine (AF.out _ _ _ _ _ _ _ _ _ _ _ _ _ _ _ _ AL2.out AF2.out AP2.out LN1.out (by omega) NX.out _ X7.out).mono ?_
    rintro e w8 ⟨Ya, Yc, rfl, own8, hb8⟩
    have g8 := keep_block hb8 g7 (lt_of_block g7)
    have r8 := keep_block hb8 r7 (lt_of_block r7)
    have x8 := keep_block hb8 x7 (lt_of_block x7)
    have R8 : Hid (RowB w8 Ra (List.replicate n bk0)) := R7.out.below hb8
    have X8 : Hid (RowB w8 Xa l1) := X7.out.below hb8
    have HB8 : Hid (Below w.heap.size w w8) := HB7.out.trans (hb8.mono HB7.out.size)
    clear g7 r7 x7 R7 X7 HB7
    have Y8 : Hid (RowB w8 Ya (List.replicate n bk0)) := own8.row
    have NY : Hid (Ya = none → Yc = 0) := own8.none
    clear own8
    clear hb8
    have hb9 : Below w8.heap.size w8 (w8.alloc (.cells #[.slice Ya n Yc, .int .i64 0] 28)) := (Below.refl _ _).alloc (Nat.le_refl _) _
    have g9 := keep_block hb9 g8 (lt_of_block g8)
    have r9 := keep_block hb9 r8 (lt_of_block r8)
    have x9 := keep_block hb9 x8 (lt_of_block x8)
    have R9 : Hid (RowB (w8.alloc (.cells #[.slice Ya n Yc, .int .i64 0] 28)) Ra (List.replicate n bk0)) := R8.out.below hb9
    have X9 : Hid (RowB (w8.alloc (.cells #[.slice Ya n Yc, .int .i64 0] 28)) Xa l1) := X8.out.below hb9
    have Y9 : Hid (RowB (w8.alloc (.cells #[.slice Ya n Yc, .int .i64 0] 28)) Ya (List.replicate n bk0)) := Y8.out.below hb9
    have y9 := heap_alloc_new w8 (.cells #[.slice Ya n Yc, .int .i64 0] 28)
    have HB9 : Hid (Below w.heap.size w (w8.alloc (.cells #[.slice Ya n Yc, .int .i64 0] 28))) := HB8.out.trans (hb9.mono HB8.out.size)
    go_wp2_with fail
    clear hb9
    clear g8 r8 x8 R8 X8 Y8 HB8
    generalize (w8.alloc (.cells #[.slice Ya n Yc, .int .i64 0] 28)) = w9 at g9 r9 x9 R9 X9 Y9 y9 HB9 ⊢
    obtain ⟨yP, hyP⟩ : ∃ p, w8.heap.size = p := ⟨_, rfl⟩
    rw [hyP] at y9
    (try simp only [hyP])
    clear hyP
    go_wp2_with fail
    refine wp_region_flowV (fun k => match k with | 0 => some (.bool true) | 1 => some (.bool true) | 2 => some (.bool true) | 3 => some (.bool true) | 4 => some (.bool true) | 5 => some (.agg #[.slice Xa n Xc, .int .i64 0]) | 7 => some (.int .i64 (j : Int)) | 9 => some (.bool true) | 10 => some (.bool true) | 11 => some (.bool true) | 12 => some (.agg #[.slice Ya n Yc, .int .i64 0]) | 13 => some (.agg #[.slice Ra n Rc, .int .i64 0]) | 14 => some (.bool true) | 15 => some (.bool true) | 16 => some (.bool true) | 17 => some (.agg #[.slice Ya n Yc, .int .i64 0]) | 19 => some (.int .i64 0) | 20 => some (.bool true) | 21 => some (.bool true) | 22 => some (.bool true) | 23 => some (.pointer (some ⟨rP, 0, none⟩)) | 24 => some (.slice Ra n Rc) | 25 => some (.int .i64 (n : Int)) | 26 => some (.agg #[.int .i64 a, .int .i64 b, .int .i64 r, .int .i64 d]) | 27 => some (.int .i64 (n : Int)) | 28 => some (.bool true) | 29 => some (.bool true) | 30 => some (.bool true) | _ => none) (fun listed x u => FactW 6 9 (fun q u => ∃ (aa : Option Addr) (cc : Nat), q = .slice aa 1 cc ∧ RowI u aa [(j : Int)]) listed x u ∧ FactW 8 9 (fun q u => ∃ (aa : Option Addr) (cc : Nat), q = .slice aa 1 cc ∧ RowI u aa [(j : Int)]) listed x u ∧ Fact 18 (fun q => ∃ (aa : Option Addr) (cc : Nat), q = .slice aa 0 cc) listed x) (upd (fun _ => undef) 30 (.bool false)) (by kernel_rfl) (by kernel_rfl) ?hx2 ?hS2 ?hs2 ?he2
    case hx2 => simp only [putsX, Act.put, List.setIfInBounds_toArray, List.set_cons_zero, List.set_cons_succ, upd, Nat.reduceEqDiff, reduceIte]
    case hS2 => exact ⟨FactW.zero _ _ _ _ _ _, FactW.zero _ _ _ _ _ _, Fact.zero _ _ _ _⟩
    case hs2 =>
      simp only [flowSteps]
      refine ⟨?s2_0, ?s2_1, ?s2_2, ?s2_3, ?s2_4, ?s2_5, ?s2_6, ?s2_7, ?s2_8, ?s2_9, ?s2_10, ?s2_11, ?s2_12, ?s2_13, ?s2_14, ?s2_15, ?s2_16, ?s2_17, ?s2_18, ?s2_19, ?s2_20, ?s2_21, ?s2_22, ?s2_23, ?s2_24, ?s2_25, ?s2_26, ?s2_27, ?s2_28, ?s2_29, ?s2_30, trivial⟩
      case s2_0 =>
        intro listed bb u hsz hn hwt hinv
        obtain ⟨x, rfl, hC, hU, h6, h8, p18⟩ := hinv
        simp only [putsX, Act.put, List.setIfInBounds_toArray, List.set_cons_zero, List.set_cons_succ]
        go_wp2_with fail
        refine stepQ_normal ⟨trivial, upd x 0 (.bool true), ?_, hC, hU.step (fun _ h => Option.some.inj h), h6.keep (by decide) (by decide) _ id, h8.keep (by decide) (by decide) _ id, p18.keep (by decide) _⟩
        simp only [upd]
        rfl
      case s2_1 =>
        intro listed bb u hsz hn hwt hinv
        obtain ⟨x, rfl, hC, hU, h6, h8, p18⟩ := hinv
        have f0 := Lib.hid (hU 0 _ rfl (hwt 0 (by kernel_rfl)))
        simp only [putsX, Act.put, List.setIfInBounds_toArray, List.set_cons_zero, List.set_cons_succ]
        rw [f0.out]
        go_wp2_with fail
        refine stepQ_normal ⟨trivial, upd x 1 (.bool true), ?_, hC, hU.step (fun _ h => Option.some.inj h), h6.keep (by decide) (by decide) _ id, h8.keep (by decide) (by decide) _ id, p18.keep (by decide) _⟩
        simp only [upd]
        simp only [f0.out]
        (try rfl)
      case s2_2 =>
        refine guardStep (fun listed bb u hsz hn hwt hinv => ?_) ?_
        · obtain ⟨x, rfl, hC, hU, h6, h8, p18⟩ := hinv
          have f1 := Lib.hid (hU 1 _ rfl (hwt 1 (by kernel_rfl)))
          simp only [putsX, Act.put, List.setIfInBounds_toArray, List.set_cons_zero, List.set_cons_succ]
          rw [f1.out]
          (show _ = true; kernel_rfl)
        intro listed bb u hsz hn hwt hinv
        obtain ⟨x, rfl, hC, hU, h6, h8, p18⟩ := hinv
        have f1 := Lib.hid (hU 1 _ rfl (hwt 1 (by kernel_rfl)))
        simp only [putsX, Act.put, List.setIfInBounds_toArray, List.set_cons_zero, List.set_cons_succ]
        rw [f1.out]
        go_wp2_with fail
        refine stepQ_normal ⟨trivial, upd x 2 (.bool true), ?_, hC, hU.step (fun _ h => Option.some.inj h), h6.keep (by decide) (by decide) _ id, h8.keep (by decide) (by decide) _ id, p18.keep (by decide) _⟩
        simp only [upd]
        simp only [f1.out]
        (try rfl)
      case s2_3 =>
        intro listed bb u hsz hn hwt hinv
        obtain ⟨x, rfl, hC, hU, h6, h8, p18⟩ := hinv
        have f1 := Lib.hid (hU 1 _ rfl (hwt 1 (by kernel_rfl)))
        have f2 := Lib.hid (hU 2 _ rfl (hwt 2 (by kernel_rfl)))
        simp only [putsX, Act.put, List.setIfInBounds_toArray, List.set_cons_zero, List.set_cons_succ]
        rw [f1.out]
        rw [f2.out]
        go_wp2_with fail
        refine stepQ_normal ⟨trivial, upd x 3 (.bool true), ?_, hC, hU.step (fun _ h => Option.some.inj h), h6.keep (by decide) (by decide) _ id, h8.keep (by decide) (by decide) _ id, p18.keep (by decide) _⟩
        simp only [upd]
        simp only [f1.out, f2.out]
        (try rfl)
      case s2_4 =>
        intro listed bb u hsz hn hwt hinv
        obtain ⟨x, rfl, hC, hU, h6, h8, p18⟩ := hinv
        have f3 := Lib.hid (hU 3 _ rfl (hwt 3 (by kernel_rfl)))
        simp only [putsX, Act.put, List.setIfInBounds_toArray, List.set_cons_zero, List.set_cons_succ]
        rw [f3.out]
        go_wp2_with fail
        refine stepQ_normal ⟨trivial, upd x 4 (.bool true), ?_, hC, hU.step (fun _ h => Option.some.inj h), h6.keep (by decide) (by decide) _ id, h8.keep (by decide) (by decide) _ id, p18.keep (by decide) _⟩
        simp only [upd]
        simp only [f3.out]
        (try rfl)
      case s2_5 =>
        refine guardStep (fun listed bb u hsz hn hwt hinv => ?_) ?_
        · obtain ⟨x, rfl, hC, hU, h6, h8, p18⟩ := hinv
          have f4 := Lib.hid (hU 4 _ rfl (hwt 4 (by kernel_rfl)))
          simp only [putsX, Act.put, List.setIfInBounds_toArray, List.set_cons_zero, List.set_cons_succ]
          rw [f4.out]
          (show _ = true; kernel_rfl)
        intro listed bb u hsz hn hwt hinv
        obtain ⟨x, rfl, hC, hU, h6, h8, p18⟩ := hinv
        have f4 := Lib.hid (hU 4 _ rfl (hwt 4 (by kernel_rfl)))
        simp only [putsX, Act.put, List.setIfInBounds_toArray, List.set_cons_zero, List.set_cons_succ]
        rw [f4.out]
        obtain ⟨a0, a1⟩ := cells2 (keep_block hC x9 (lt_of_block x9))
        go_wp2_with fail
        refine stepQ_normal ⟨trivial, upd x 5 (.agg #[.slice Xa n Xc, .int .i64 0]), ?_, hC, hU.step (fun _ h => Option.some.inj h), h6.keep (by decide) (by decide) _ id, h8.keep (by decide) (by decide) _ id, p18.keep (by decide) _⟩
        simp only [upd]
        simp only [f4.out]
        (try rfl)
      case s2_6 =>
        refine guardStep (fun listed bb u hsz hn hwt hinv => ?_) ?_
        · obtain ⟨x, rfl, hC, hU, h6, h8, p18⟩ := hinv
          have f4 := Lib.hid (hU 4 _ rfl (hwt 4 (by kernel_rfl)))
          simp only [putsX, Act.put, List.setIfInBounds_toArray, List.set_cons_zero, List.set_cons_succ]
          rw [f4.out]
          (show _ = true; kernel_rfl)
        intro listed bb u hsz hn hwt hinv
        obtain ⟨x, rfl, hC, hU, h6, h8, p18⟩ := hinv
        have f4 := Lib.hid (hU 4 _ rfl (hwt 4 (by kernel_rfl)))
        have f5 := Lib.hid (hU 5 _ rfl (hwt 5 (by kernel_rfl)))
        simp only [putsX, Act.put, List.setIfInBounds_toArray, List.set_cons_zero, List.set_cons_succ]
        rw [f4.out]
        have hcall : Calls Try.prog 23 #[x 5] u (GivesI (openF 0 l1) u) := by rw [f5.out]; exact OB.out _ _ _ _ _ LN1.out (by omega) NX.out _ (X9.out.below hC)
        rw [OP.out] at hcall
        go_wp2_with fail
        refine hcall.mono ?_
        rintro e u' ⟨ab, cb, rfl, own, hb⟩
        have own2 : RowI u' ab [(j : Int)] := own.row
        go_wp2_with fail
        refine stepQ_normal ⟨trivial, upd x 6 (.slice ab 1 cb), ?_, hC.trans (hb.mono hC.size), hU.step (fun _ h => by cases h), FactW.new ⟨ab, cb, rfl, own2⟩, h8.keep (by decide) (by decide) _ (fun ⟨a1, a2, a3, a4⟩ => ⟨a1, a2, a3, a4.below (hb)⟩), p18.keep (by decide) _⟩
        simp only [upd]
        simp only [f4.out]
        (try rfl)
      case s2_7 =>
        refine guardStep (fun listed bb u hsz hn hwt hinv => ?_) ?_
        · obtain ⟨x, rfl, hC, hU, h6, h8, p18⟩ := hinv
          have f4 := Lib.hid (hU 4 _ rfl (hwt 4 (by kernel_rfl)))
          simp only [putsX, Act.put, List.setIfInBounds_toArray, List.set_cons_zero, List.set_cons_succ]
          rw [f4.out]
          (show _ = true; kernel_rfl)
        intro listed bb u hsz hn hwt hinv
        obtain ⟨x, rfl, hC, hU, h6, h8, p18⟩ := hinv
        have f4 := Lib.hid (hU 4 _ rfl (hwt 4 (by kernel_rfl)))
        simp only [putsX, Act.put, List.setIfInBounds_toArray, List.set_cons_zero, List.set_cons_succ]
        rw [f4.out]
        go_wp2_with fail
        refine stepQ_normal ⟨trivial, upd x 7 (.int .i64 (j : Int)), ?_, hC, hU.step (fun _ h => Option.some.inj h), h6.keep (by decide) (by decide) _ id, h8.keep (by decide) (by decide) _ id, p18.keep (by decide) _⟩
        simp only [upd]
        simp only [f4.out]
        (try rfl)
      case s2_8 =>
        refine guardStep (fun listed bb u hsz hn hwt hinv => ?_) ?_
        · obtain ⟨x, rfl, hC, hU, h6, h8, p18⟩ := hinv
          have f4 := Lib.hid (hU 4 _ rfl (hwt 4 (by kernel_rfl)))
          simp only [putsX, Act.put, List.setIfInBounds_toArray, List.set_cons_zero, List.set_cons_succ]
          rw [f4.out]
          (show _ = true; kernel_rfl)
        intro listed bb u hsz hn hwt hinv
        obtain ⟨x, rfl, hC, hU, h6, h8, p18⟩ := hinv
        have f4 := Lib.hid (hU 4 _ rfl (hwt 4 (by kernel_rfl)))
        have f7 := Lib.hid (hU 7 _ rfl (hwt 7 (by kernel_rfl)))
        simp only [putsX, Act.put, List.setIfInBounds_toArray, List.set_cons_zero, List.set_cons_succ]
        rw [f4.out]
        rw [f7.out]
        go_wp2_with fail
        refine stepQ_normal ⟨trivial, upd x 8 (.slice (some ⟨u.heap.size, 0, none⟩) 1 1), ?_, hC.alloc hC.size _, hU.step (fun _ h => by cases h), h6.keep (by decide) (by decide) _ (fun ⟨a1, a2, a3, a4⟩ => ⟨a1, a2, a3, a4.below ((Below.refl _ _).alloc (Nat.le_refl _) _)⟩), FactW.new ⟨_, _, rfl, rowI_one _ _⟩, p18.keep (by decide) _⟩
        simp only [upd]
        simp only [f4.out, f7.out]
        (try rfl)
      case s2_9 =>
        refine guardStep (fun listed bb u hsz hn hwt hinv => ?_) ?_
        · obtain ⟨x, rfl, hC, hU, h6, h8, p18⟩ := hinv
          have f4 := Lib.hid (hU 4 _ rfl (hwt 4 (by kernel_rfl)))
          simp only [putsX, Act.put, List.setIfInBounds_toArray, List.set_cons_zero, List.set_cons_succ]
          rw [f4.out]
          (show _ = true; kernel_rfl)
        intro listed bb u hsz hn hwt hinv
        obtain ⟨x, rfl, hC, hU, h6, h8, p18⟩ := hinv
        have f4 := Lib.hid (hU 4 _ rfl (hwt 4 (by kernel_rfl)))
        simp only [putsX, Act.put, List.setIfInBounds_toArray, List.set_cons_zero, List.set_cons_succ]
        rw [f4.out]
        obtain ⟨aa, cc, fp, hrow⟩ := h6 (hwt 6 (by kernel_rfl)) hn
        obtain ⟨ab, cb, fq, hrow2⟩ := h8 (hwt 8 (by kernel_rfl)) hn
        have hcall : Calls Try.prog 22 #[x 6, x 8] u (Gives (.bool true) u) := by rw [fp, fq]; exact sameInts_is rfl hrow hrow2 (by decide)
        clear fp fq
        go_wp2_with fail
        refine hcall.mono ?_
        rintro e u' ⟨rfl, hb⟩
        go_wp2_with fail
        refine stepQ_normal ⟨trivial, upd x 9 (.bool true), ?_, hC.trans (hb.mono hC.size), hU.step (fun _ h => Option.some.inj h), FactW.call (by rw [hsz]; decide), FactW.call (by rw [hsz]; decide), p18.keep (by decide) _⟩
        simp only [upd]
        simp only [f4.out]
        (try rfl)
      case s2_10 =>
        intro listed bb u hsz hn hwt hinv
        obtain ⟨x, rfl, hC, hU, h6, h8, p18⟩ := hinv
        have f4 := Lib.hid (hU 4 _ rfl (hwt 4 (by kernel_rfl)))
        have f9 := Lib.hid (hU 9 _ rfl (hwt 9 (by kernel_rfl)))
        simp only [putsX, Act.put, List.setIfInBounds_toArray, List.set_cons_zero, List.set_cons_succ]
        rw [f4.out]
        rw [f9.out]
        go_wp2_with fail
        refine stepQ_normal ⟨trivial, upd x 10 (.bool true), ?_, hC, hU.step (fun _ h => Option.some.inj h), h6.keep (by decide) (by decide) _ id, h8.keep (by decide) (by decide) _ id, p18.keep (by decide) _⟩
        simp only [upd]
        simp only [f4.out, f9.out]
        (try rfl)
      case s2_11 =>
        intro listed bb u hsz hn hwt hinv
        obtain ⟨x, rfl, hC, hU, h6, h8, p18⟩ := hinv
        have f10 := Lib.hid (hU 10 _ rfl (hwt 10 (by kernel_rfl)))
        simp only [putsX, Act.put, List.setIfInBounds_toArray, List.set_cons_zero, List.set_cons_succ]
        rw [f10.out]
        go_wp2_with fail
        refine stepQ_normal ⟨trivial, upd x 11 (.bool true), ?_, hC, hU.step (fun _ h => Option.some.inj h), h6.keep (by decide) (by decide) _ id, h8.keep (by decide) (by decide) _ id, p18.keep (by decide) _⟩
        simp only [upd]
        simp only [f10.out]
        (try rfl)
      case s2_12 =>
        refine guardStep (fun listed bb u hsz hn hwt hinv => ?_) ?_
        · obtain ⟨x, rfl, hC, hU, h6, h8, p18⟩ := hinv
          have f11 := Lib.hid (hU 11 _ rfl (hwt 11 (by kernel_rfl)))
          simp only [putsX, Act.put, List.setIfInBounds_toArray, List.set_cons_zero, List.set_cons_succ]
          rw [f11.out]
          (show _ = true; kernel_rfl)
        intro listed bb u hsz hn hwt hinv
        obtain ⟨x, rfl, hC, hU, h6, h8, p18⟩ := hinv
        have f11 := Lib.hid (hU 11 _ rfl (hwt 11 (by kernel_rfl)))
        simp only [putsX, Act.put, List.setIfInBounds_toArray, List.set_cons_zero, List.set_cons_succ]
        rw [f11.out]
        obtain ⟨a0, a1⟩ := cells2 (keep_block hC y9 (lt_of_block y9))
        go_wp2_with fail
        refine stepQ_normal ⟨trivial, upd x 12 (.agg #[.slice Ya n Yc, .int .i64 0]), ?_, hC, hU.step (fun _ h => Option.some.inj h), h6.keep (by decide) (by decide) _ id, h8.keep (by decide) (by decide) _ id, p18.keep (by decide) _⟩
        simp only [upd]
        simp only [f11.out]
        (try rfl)
      case s2_13 =>
        refine guardStep (fun listed bb u hsz hn hwt hinv => ?_) ?_
        · obtain ⟨x, rfl, hC, hU, h6, h8, p18⟩ := hinv
          have f11 := Lib.hid (hU 11 _ rfl (hwt 11 (by kernel_rfl)))
          simp only [putsX, Act.put, List.setIfInBounds_toArray, List.set_cons_zero, List.set_cons_succ]
          rw [f11.out]
          (show _ = true; kernel_rfl)
        intro listed bb u hsz hn hwt hinv
        obtain ⟨x, rfl, hC, hU, h6, h8, p18⟩ := hinv
        have f11 := Lib.hid (hU 11 _ rfl (hwt 11 (by kernel_rfl)))
        simp only [putsX, Act.put, List.setIfInBounds_toArray, List.set_cons_zero, List.set_cons_succ]
        rw [f11.out]
        obtain ⟨a0, a1⟩ := cells2 (keep_block hC r9 (lt_of_block r9))
        go_wp2_with fail
        refine stepQ_normal ⟨trivial, upd x 13 (.agg #[.slice Ra n Rc, .int .i64 0]), ?_, hC, hU.step (fun _ h => Option.some.inj h), h6.keep (by decide) (by decide) _ id, h8.keep (by decide) (by decide) _ id, p18.keep (by decide) _⟩
        simp only [upd]
        simp only [f11.out]
        (try rfl)
      case s2_14 =>
        refine guardStep (fun listed bb u hsz hn hwt hinv => ?_) ?_
        · obtain ⟨x, rfl, hC, hU, h6, h8, p18⟩ := hinv
          have f11 := Lib.hid (hU 11 _ rfl (hwt 11 (by kernel_rfl)))
          simp only [putsX, Act.put, List.setIfInBounds_toArray, List.set_cons_zero, List.set_cons_succ]
          rw [f11.out]
          (show _ = true; kernel_rfl)
        intro listed bb u hsz hn hwt hinv
        obtain ⟨x, rfl, hC, hU, h6, h8, p18⟩ := hinv
        have f12 := Lib.hid (hU 12 _ rfl (hwt 12 (by kernel_rfl)))
        have f13 := Lib.hid (hU 13 _ rfl (hwt 13 (by kernel_rfl)))
        have f11 := Lib.hid (hU 11 _ rfl (hwt 11 (by kernel_rfl)))
        simp only [putsX, Act.put, List.setIfInBounds_toArray, List.set_cons_zero, List.set_cons_succ]
        rw [f11.out]
        have hcall : Calls Try.prog 15 #[x 12, x 13] u (Gives (.bool true) u) := by rw [f12.out, f13.out]; exact sameRank_is 0 LN0.out (Y9.out.below hC) (R9.out.below hC) (by omega)
        go_wp2_with fail
        refine hcall.mono ?_
        rintro e u' ⟨rfl, hb⟩
        go_wp2_with fail
        refine stepQ_normal ⟨trivial, upd x 14 (.bool true), ?_, hC.trans (hb.mono hC.size), hU.step (fun _ h => Option.some.inj h), h6.keep (by decide) (by decide) _ (fun ⟨a1, a2, a3, a4⟩ => ⟨a1, a2, a3, a4.below (hb)⟩), h8.keep (by decide) (by decide) _ (fun ⟨a1, a2, a3, a4⟩ => ⟨a1, a2, a3, a4.below (hb)⟩), p18.keep (by decide) _⟩
        simp only [upd]
        simp only [f11.out]
        (try rfl)
      case s2_15 =>
        intro listed bb u hsz hn hwt hinv
        obtain ⟨x, rfl, hC, hU, h6, h8, p18⟩ := hinv
        have f11 := Lib.hid (hU 11 _ rfl (hwt 11 (by kernel_rfl)))
        have f14 := Lib.hid (hU 14 _ rfl (hwt 14 (by kernel_rfl)))
        simp only [putsX, Act.put, List.setIfInBounds_toArray, List.set_cons_zero, List.set_cons_succ]
        rw [f11.out]
        rw [f14.out]
        go_wp2_with fail
        refine stepQ_normal ⟨trivial, upd x 15 (.bool true), ?_, hC, hU.step (fun _ h => Option.some.inj h), h6.keep (by decide) (by decide) _ id, h8.keep (by decide) (by decide) _ id, p18.keep (by decide) _⟩
        simp only [upd]
        simp only [f11.out, f14.out]
        (try rfl)
      case s2_16 =>
        intro listed bb u hsz hn hwt hinv
        obtain ⟨x, rfl, hC, hU, h6, h8, p18⟩ := hinv
        have f15 := Lib.hid (hU 15 _ rfl (hwt 15 (by kernel_rfl)))
        simp only [putsX, Act.put, List.setIfInBounds_toArray, List.set_cons_zero, List.set_cons_succ]
        rw [f15.out]
        go_wp2_with fail
        refine stepQ_normal ⟨trivial, upd x 16 (.bool true), ?_, hC, hU.step (fun _ h => Option.some.inj h), h6.keep (by decide) (by decide) _ id, h8.keep (by decide) (by decide) _ id, p18.keep (by decide) _⟩
        simp only [upd]
        simp only [f15.out]
        (try rfl)
      case s2_17 =>
        refine guardStep (fun listed bb u hsz hn hwt hinv => ?_) ?_
        · obtain ⟨x, rfl, hC, hU, h6, h8, p18⟩ := hinv
          have f16 := Lib.hid (hU 16 _ rfl (hwt 16 (by kernel_rfl)))
          simp only [putsX, Act.put, List.setIfInBounds_toArray, List.set_cons_zero, List.set_cons_succ]
          rw [f16.out]
          (show _ = true; kernel_rfl)
        intro listed bb u hsz hn hwt hinv
        obtain ⟨x, rfl, hC, hU, h6, h8, p18⟩ := hinv
        have f16 := Lib.hid (hU 16 _ rfl (hwt 16 (by kernel_rfl)))
        simp only [putsX, Act.put, List.setIfInBounds_toArray, List.set_cons_zero, List.set_cons_succ]
        rw [f16.out]
        obtain ⟨a0, a1⟩ := cells2 (keep_block hC y9 (lt_of_block y9))
        go_wp2_with fail
        refine stepQ_normal ⟨trivial, upd x 17 (.agg #[.slice Ya n Yc, .int .i64 0]), ?_, hC, hU.step (fun _ h => Option.some.inj h), h6.keep (by decide) (by decide) _ id, h8.keep (by decide) (by decide) _ id, p18.keep (by decide) _⟩
        simp only [upd]
        simp only [f16.out]
        (try rfl)
      case s2_18 =>
        refine guardStep (fun listed bb u hsz hn hwt hinv => ?_) ?_
        · obtain ⟨x, rfl, hC, hU, h6, h8, p18⟩ := hinv
          have f16 := Lib.hid (hU 16 _ rfl (hwt 16 (by kernel_rfl)))
          simp only [putsX, Act.put, List.setIfInBounds_toArray, List.set_cons_zero, List.set_cons_succ]
          rw [f16.out]
          (show _ = true; kernel_rfl)
        intro listed bb u hsz hn hwt hinv
        obtain ⟨x, rfl, hC, hU, h6, h8, p18⟩ := hinv
        have f16 := Lib.hid (hU 16 _ rfl (hwt 16 (by kernel_rfl)))
        have f17 := Lib.hid (hU 17 _ rfl (hwt 17 (by kernel_rfl)))
        simp only [putsX, Act.put, List.setIfInBounds_toArray, List.set_cons_zero, List.set_cons_succ]
        rw [f16.out]
        have hcall : Calls Try.prog 23 #[x 17] u (GivesI (openF 0 (List.replicate n bk0)) u) := by rw [f17.out]; exact OB.out _ _ _ _ _ LN0.out (by omega) NY.out _ (Y9.out.below hC)
        rw [OP0.out] at hcall
        go_wp2_with fail
        refine hcall.mono ?_
        rintro e u' ⟨ab, cb, rfl, own, hb⟩
        go_wp2_with fail
        refine stepQ_normal ⟨trivial, upd x 18 (.slice ab 0 cb), ?_, hC.trans (hb.mono hC.size), hU.step (fun _ h => by cases h), h6.keep (by decide) (by decide) _ (fun ⟨a1, a2, a3, a4⟩ => ⟨a1, a2, a3, a4.below (hb)⟩), h8.keep (by decide) (by decide) _ (fun ⟨a1, a2, a3, a4⟩ => ⟨a1, a2, a3, a4.below (hb)⟩), Fact.new ⟨ab, cb, rfl⟩⟩
        simp only [upd]
        simp only [f16.out]
        (try rfl)
      case s2_19 =>
        refine guardStep (fun listed bb u hsz hn hwt hinv => ?_) ?_
        · obtain ⟨x, rfl, hC, hU, h6, h8, p18⟩ := hinv
          have f16 := Lib.hid (hU 16 _ rfl (hwt 16 (by kernel_rfl)))
          simp only [putsX, Act.put, List.setIfInBounds_toArray, List.set_cons_zero, List.set_cons_succ]
          rw [f16.out]
          (show _ = true; kernel_rfl)
        intro listed bb u hsz hn hwt hinv
        obtain ⟨x, rfl, hC, hU, h6, h8, p18⟩ := hinv
        have f16 := Lib.hid (hU 16 _ rfl (hwt 16 (by kernel_rfl)))
        simp only [putsX, Act.put, List.setIfInBounds_toArray, List.set_cons_zero, List.set_cons_succ]
        rw [f16.out]
        obtain ⟨aa, cc, fp⟩ := p18 (hwt 18 (by kernel_rfl))
        have FP := Lib.hid fp
        rw [FP.out]
        clear fp
        go_wp2_with fail
        refine stepQ_normal ⟨trivial, upd x 19 (.int .i64 0), ?_, hC, hU.step (fun _ h => Option.some.inj h), h6.keep (by decide) (by decide) _ id, h8.keep (by decide) (by decide) _ id, p18.keep (by decide) _⟩
        simp only [upd]
        simp only [f16.out, FP.out]
        (try rfl)
      case s2_20 =>
        refine guardStep (fun listed bb u hsz hn hwt hinv => ?_) ?_
        · obtain ⟨x, rfl, hC, hU, h6, h8, p18⟩ := hinv
          have f16 := Lib.hid (hU 16 _ rfl (hwt 16 (by kernel_rfl)))
          simp only [putsX, Act.put, List.setIfInBounds_toArray, List.set_cons_zero, List.set_cons_succ]
          rw [f16.out]
          (show _ = true; kernel_rfl)
        intro listed bb u hsz hn hwt hinv
        obtain ⟨x, rfl, hC, hU, h6, h8, p18⟩ := hinv
        have f16 := Lib.hid (hU 16 _ rfl (hwt 16 (by kernel_rfl)))
        have f19 := Lib.hid (hU 19 _ rfl (hwt 19 (by kernel_rfl)))
        simp only [putsX, Act.put, List.setIfInBounds_toArray, List.set_cons_zero, List.set_cons_succ]
        rw [f16.out]
        rw [f19.out]
        go_wp2_with fail
        refine stepQ_normal ⟨trivial, upd x 20 (.bool true), ?_, hC, hU.step (fun _ h => Option.some.inj h), h6.keep (by decide) (by decide) _ id, h8.keep (by decide) (by decide) _ id, p18.keep (by decide) _⟩
        simp only [upd]
        simp only [f16.out, f19.out]
        (try rfl)
      case s2_21 =>
        intro listed bb u hsz hn hwt hinv
        obtain ⟨x, rfl, hC, hU, h6, h8, p18⟩ := hinv
        have f16 := Lib.hid (hU 16 _ rfl (hwt 16 (by kernel_rfl)))
        have f20 := Lib.hid (hU 20 _ rfl (hwt 20 (by kernel_rfl)))
        simp only [putsX, Act.put, List.setIfInBounds_toArray, List.set_cons_zero, List.set_cons_succ]
        rw [f16.out]
        rw [f20.out]
        go_wp2_with fail
        refine stepQ_normal ⟨trivial, upd x 21 (.bool true), ?_, hC, hU.step (fun _ h => Option.some.inj h), h6.keep (by decide) (by decide) _ id, h8.keep (by decide) (by decide) _ id, p18.keep (by decide) _⟩
        simp only [upd]
        simp only [f16.out, f20.out]
        (try rfl)
      case s2_22 =>
        intro listed bb u hsz hn hwt hinv
        obtain ⟨x, rfl, hC, hU, h6, h8, p18⟩ := hinv
        have f21 := Lib.hid (hU 21 _ rfl (hwt 21 (by kernel_rfl)))
        simp only [putsX, Act.put, List.setIfInBounds_toArray, List.set_cons_zero, List.set_cons_succ]
        rw [f21.out]
        go_wp2_with fail
        refine stepQ_normal ⟨trivial, upd x 22 (.bool true), ?_, hC, hU.step (fun _ h => Option.some.inj h), h6.keep (by decide) (by decide) _ id, h8.keep (by decide) (by decide) _ id, p18.keep (by decide) _⟩
        simp only [upd]
        simp only [f21.out]
        (try rfl)
      case s2_23 =>
        refine guardStep (fun listed bb u hsz hn hwt hinv => ?_) ?_
        · obtain ⟨x, rfl, hC, hU, h6, h8, p18⟩ := hinv
          have f22 := Lib.hid (hU 22 _ rfl (hwt 22 (by kernel_rfl)))
          simp only [putsX, Act.put, List.setIfInBounds_toArray, List.set_cons_zero, List.set_cons_succ]
          rw [f22.out]
          (show _ = true; kernel_rfl)
        intro listed bb u hsz hn hwt hinv
        obtain ⟨x, rfl, hC, hU, h6, h8, p18⟩ := hinv
        have f22 := Lib.hid (hU 22 _ rfl (hwt 22 (by kernel_rfl)))
        simp only [putsX, Act.put, List.setIfInBounds_toArray, List.set_cons_zero, List.set_cons_succ]
        rw [f22.out]
        go_wp2_with fail
        refine stepQ_normal ⟨trivial, upd x 23 (.pointer (some ⟨rP, 0, none⟩)), ?_, hC, hU.step (fun _ h => Option.some.inj h), h6.keep (by decide) (by decide) _ id, h8.keep (by decide) (by decide) _ id, p18.keep (by decide) _⟩
        simp only [upd]
        simp only [f22.out]
        (try rfl)
      case s2_24 =>
        refine guardStep (fun listed bb u hsz hn hwt hinv => ?_) ?_
        · obtain ⟨x, rfl, hC, hU, h6, h8, p18⟩ := hinv
          have f22 := Lib.hid (hU 22 _ rfl (hwt 22 (by kernel_rfl)))
          simp only [putsX, Act.put, List.setIfInBounds_toArray, List.set_cons_zero, List.set_cons_succ]
          rw [f22.out]
          (show _ = true; kernel_rfl)
        intro listed bb u hsz hn hwt hinv
        obtain ⟨x, rfl, hC, hU, h6, h8, p18⟩ := hinv
        have f22 := Lib.hid (hU 22 _ rfl (hwt 22 (by kernel_rfl)))
        have f23 := Lib.hid (hU 23 _ rfl (hwt 23 (by kernel_rfl)))
        simp only [putsX, Act.put, List.setIfInBounds_toArray, List.set_cons_zero, List.set_cons_succ]
        rw [f22.out]
        rw [f23.out]
        obtain ⟨a0, a1⟩ := cells2 (keep_block hC r9 (lt_of_block r9))
        go_wp2_with fail
        refine stepQ_normal ⟨trivial, upd x 24 (.slice Ra n Rc), ?_, hC, hU.step (fun _ h => Option.some.inj h), h6.keep (by decide) (by decide) _ id, h8.keep (by decide) (by decide) _ id, p18.keep (by decide) _⟩
        simp only [upd]
        simp only [f22.out, f23.out]
        (try rfl)
      case s2_25 =>
        refine guardStep (fun listed bb u hsz hn hwt hinv => ?_) ?_
        · obtain ⟨x, rfl, hC, hU, h6, h8, p18⟩ := hinv
          have f22 := Lib.hid (hU 22 _ rfl (hwt 22 (by kernel_rfl)))
          simp only [putsX, Act.put, List.setIfInBounds_toArray, List.set_cons_zero, List.set_cons_succ]
          rw [f22.out]
          (show _ = true; kernel_rfl)
        intro listed bb u hsz hn hwt hinv
        obtain ⟨x, rfl, hC, hU, h6, h8, p18⟩ := hinv
        have f22 := Lib.hid (hU 22 _ rfl (hwt 22 (by kernel_rfl)))
        have f24 := Lib.hid (hU 24 _ rfl (hwt 24 (by kernel_rfl)))
        simp only [putsX, Act.put, List.setIfInBounds_toArray, List.set_cons_zero, List.set_cons_succ]
        rw [f22.out]
        rw [f24.out]
        go_wp2_with fail
        refine stepQ_normal ⟨trivial, upd x 25 (.int .i64 (n : Int)), ?_, hC, hU.step (fun _ h => Option.some.inj h), h6.keep (by decide) (by decide) _ id, h8.keep (by decide) (by decide) _ id, p18.keep (by decide) _⟩
        simp only [upd]
        simp only [f22.out, f24.out]
        (try rfl)
      case s2_26 =>
        refine guardStep (fun listed bb u hsz hn hwt hinv => ?_) ?_
        · obtain ⟨x, rfl, hC, hU, h6, h8, p18⟩ := hinv
          have f22 := Lib.hid (hU 22 _ rfl (hwt 22 (by kernel_rfl)))
          simp only [putsX, Act.put, List.setIfInBounds_toArray, List.set_cons_zero, List.set_cons_succ]
          rw [f22.out]
          (show _ = true; kernel_rfl)
        intro listed bb u hsz hn hwt hinv
        obtain ⟨x, rfl, hC, hU, h6, h8, p18⟩ := hinv
        have f22 := Lib.hid (hU 22 _ rfl (hwt 22 (by kernel_rfl)))
        simp only [putsX, Act.put, List.setIfInBounds_toArray, List.set_cons_zero, List.set_cons_succ]
        rw [f22.out]
        obtain ⟨a0, a1, a2, a3⟩ := cells4 (keep_block hC g9 (lt_of_block g9))
        go_wp2_with fail
        refine stepQ_normal ⟨trivial, upd x 26 (.agg #[.int .i64 a, .int .i64 b, .int .i64 r, .int .i64 d]), ?_, hC, hU.step (fun _ h => Option.some.inj h), h6.keep (by decide) (by decide) _ id, h8.keep (by decide) (by decide) _ id, p18.keep (by decide) _⟩
        simp only [upd]
        simp only [f22.out]
        (try rfl)
      case s2_27 =>
        refine guardStep (fun listed bb u hsz hn hwt hinv => ?_) ?_
        · obtain ⟨x, rfl, hC, hU, h6, h8, p18⟩ := hinv
          have f22 := Lib.hid (hU 22 _ rfl (hwt 22 (by kernel_rfl)))
          simp only [putsX, Act.put, List.setIfInBounds_toArray, List.set_cons_zero, List.set_cons_succ]
          rw [f22.out]
          (show _ = true; kernel_rfl)
        intro listed bb u hsz hn hwt hinv
        obtain ⟨x, rfl, hC, hU, h6, h8, p18⟩ := hinv
        have f26 := Lib.hid (hU 26 _ rfl (hwt 26 (by kernel_rfl)))
        have f22 := Lib.hid (hU 22 _ rfl (hwt 22 (by kernel_rfl)))
        simp only [putsX, Act.put, List.setIfInBounds_toArray, List.set_cons_zero, List.set_cons_succ]
        rw [f22.out]
        have hcall : Calls Try.prog 20 #[x 26] u (Gives (.int .i64 (n : Int)) u) := by rw [f26.out]; exact specBank_is _ _ _ _ _ HN.out _
        go_wp2_with fail
        refine hcall.mono ?_
        rintro e u' ⟨rfl, hb⟩
        go_wp2_with fail
        refine stepQ_normal ⟨trivial, upd x 27 (.int .i64 (n : Int)), ?_, hC.trans (hb.mono hC.size), hU.step (fun _ h => Option.some.inj h), h6.keep (by decide) (by decide) _ (fun ⟨a1, a2, a3, a4⟩ => ⟨a1, a2, a3, a4.below (hb)⟩), h8.keep (by decide) (by decide) _ (fun ⟨a1, a2, a3, a4⟩ => ⟨a1, a2, a3, a4.below (hb)⟩), p18.keep (by decide) _⟩
        simp only [upd]
        simp only [f22.out]
        (try rfl)
      case s2_28 =>
        refine guardStep (fun listed bb u hsz hn hwt hinv => ?_) ?_
        · obtain ⟨x, rfl, hC, hU, h6, h8, p18⟩ := hinv
          have f22 := Lib.hid (hU 22 _ rfl (hwt 22 (by kernel_rfl)))
          simp only [putsX, Act.put, List.setIfInBounds_toArray, List.set_cons_zero, List.set_cons_succ]
          rw [f22.out]
          (show _ = true; kernel_rfl)
        intro listed bb u hsz hn hwt hinv
        obtain ⟨x, rfl, hC, hU, h6, h8, p18⟩ := hinv
        have f22 := Lib.hid (hU 22 _ rfl (hwt 22 (by kernel_rfl)))
        have f25 := Lib.hid (hU 25 _ rfl (hwt 25 (by kernel_rfl)))
        have f27 := Lib.hid (hU 27 _ rfl (hwt 27 (by kernel_rfl)))
        simp only [putsX, Act.put, List.setIfInBounds_toArray, List.set_cons_zero, List.set_cons_succ]
        rw [f22.out]
        rw [f25.out]
        rw [f27.out]
        have tb : ((n : Int) == (n : Int)) = true := by simp
        go_wp2_with fail
        refine stepQ_normal ⟨trivial, upd x 28 (.bool true), ?_, hC, hU.step (fun _ h => Option.some.inj h), h6.keep (by decide) (by decide) _ id, h8.keep (by decide) (by decide) _ id, p18.keep (by decide) _⟩
        simp only [upd]
        simp only [f22.out, f25.out, f27.out]
        (try rfl)
      case s2_29 =>
        intro listed bb u hsz hn hwt hinv
        obtain ⟨x, rfl, hC, hU, h6, h8, p18⟩ := hinv
        have f22 := Lib.hid (hU 22 _ rfl (hwt 22 (by kernel_rfl)))
        have f28 := Lib.hid (hU 28 _ rfl (hwt 28 (by kernel_rfl)))
        simp only [putsX, Act.put, List.setIfInBounds_toArray, List.set_cons_zero, List.set_cons_succ]
        rw [f22.out]
        rw [f28.out]
        go_wp2_with fail
        refine stepQ_normal ⟨trivial, upd x 29 (.bool true), ?_, hC, hU.step (fun _ h => Option.some.inj h), h6.keep (by decide) (by decide) _ id, h8.keep (by decide) (by decide) _ id, p18.keep (by decide) _⟩
        simp only [upd]
        simp only [f22.out, f28.out]
        (try rfl)
      case s2_30 =>
        intro listed bb u hsz hn hwt hinv
        obtain ⟨x, rfl, hC, hU, h6, h8, p18⟩ := hinv
        have f29 := Lib.hid (hU 29 _ rfl (hwt 29 (by kernel_rfl)))
        simp only [putsX, Act.put, List.setIfInBounds_toArray, List.set_cons_zero, List.set_cons_succ]
        rw [f29.out]
        go_wp2_with fail
        refine stepQ_normal ⟨trivial, upd x 30 (.bool true), ?_, hC, hU.step (fun _ h => Option.some.inj h), h6.keep (by decide) (by decide) _ id, h8.keep (by decide) (by decide) _ id, p18.keep (by decide) _⟩
        simp only [upd]
        simp only [f29.out]
        (try rfl)
    case he2 =>
      intro listed q u hall hC hU hS
      have fb := hU 30 _ rfl (hall 30 (by decide))
      simp only [putsX, Act.put, List.setIfInBounds_toArray, List.set_cons_zero, List.set_cons_succ]
      rw [fb]
      clear hall hU hS fb
      have HBz : Hid (Below w.heap.size w u) := HB9.out.trans (hC.mono HB9.out.size)
      go_wp2
      go_ret
      exact ⟨rfl, HBz.out⟩


end Go.Proofs.Ytigoniochamjgaa
