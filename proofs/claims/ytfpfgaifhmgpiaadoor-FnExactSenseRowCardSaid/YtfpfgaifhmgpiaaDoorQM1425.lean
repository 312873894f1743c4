/-
  Texts of one proof, merged: CodJ, LinY.
-/
import Derived.Test.YtfpfgaifhmgpiaaDoorQM1410
import Derived.Test.YtfpfgaifhmgpiaaDoorQM1414
import Derived.Test.YtfpfgaifhmgpiaaDoorQM1418
import Derived.Test.YtfpfgaifhmgpiaaDoorQM1419
import Derived.Test.YtfpfgaifhmgpiaaDoorQM1424
import Derived.Maps.Own
import Derived.Maps.OwnSet
import Derived.Maps.RangeWalk
import Derived.Maps.Views
namespace Go.Proofs.YtfpfgaifhmgpiaaDoor
open Go.RowKit Go.Maps Go.PlainAid

set_option linter.unusedVariables false

theorem ownJ_at0 {B n c g : Nat} {l : List Int} {w : World} (h : OwnJ B (.slice (some ⟨g, 0, none⟩) n c) l w) {k : Nat} (hk : k < l.length) :
    w.cell? ⟨g, k, none⟩ = some (.int .i64 (l.getD k 0)) ∧ w.frozen? ⟨g, k, none⟩ = false ∧ B ≤ g ∧ g < w.heap.size := by
  obtain ⟨g', o, e, h1, h2, h3, h4⟩ := h.at hk
  cases e
  rw [Nat.zero_add] at h1 h2
  exact ⟨h1, h2, h3, h4⟩

theorem ownJ_stored0 {B n c g : Nat} {l : List Int} {w : World} (h : OwnJ B (.slice (some ⟨g, 0, none⟩) n c) l w) (hl : l.length = n) {k : Nat} (hk : k < n) (x : Int) : OwnJ B (.slice (some ⟨g, 0, none⟩) n c) (l.set k x) (w.setCell ⟨g, k, none⟩ (.int .i64 x)) := by
  have := h.stored hl hk x
  rwa [Nat.zero_add] at this

end Go.Proofs.YtfpfgaifhmgpiaaDoor

namespace Go.Proofs.YtfpfgaifhmgpiaaDoor
open Go.RowKit Go.PlainAid

set_option linter.unusedVariables false

/-- Numbers in the cells of an array. -/
def cI (l : List Int) : Array Value := (l.map (Value.int .i64)).toArray

theorem cI_at {w : World} {g : Nat} {t : TypeId} {l : List Int} (h : w.heap[g]? = some (.cells (cI l) t (0, 0))) {k : Nat} (hk : k < l.length) : w.cell? ⟨g, k, none⟩ = some (.int .i64 (l.getD k 0)) := by
  have e : w.cell? ⟨g, k, none⟩ = (cI l)[k]? := by simp only [World.cell?, h]; rfl
  rw [e]
  unfold cI
  rw [List.getElem?_toArray, List.getElem?_map, List.getElem?_eq_getElem hk, List.getD_eq_getElem?_getD, List.getElem?_eq_getElem hk]
  rfl

theorem cI_set (l : List Int) (k : Nat) (v : Int) : (cI l).setIfInBounds k (.int .i64 v) = cI (l.set k v) := by
  unfold cI
  rw [List.setIfInBounds_toArray, List.map_set]

theorem row_cI {w : World} {g : Nat} {t : TypeId} {l : List Int} (h : w.heap[g]? = some (.cells (cI l) t (0, 0))) : RowI w (some ⟨g, 0, none⟩) l :=
  .inr ⟨g, 0, rfl, fun i hi => by rw [Nat.zero_add]; exact cI_at h hi⟩

theorem eightI {l : List Int} (h : l.length = 8) : ∃ a0 a1 a2 a3 a4 a5 a6 a7, l = [a0, a1, a2, a3, a4, a5, a6, a7] := by
  match l, h with
  | [a0, a1, a2, a3, a4, a5, a6, a7], _ => exact ⟨a0, a1, a2, a3, a4, a5, a6, a7, rfl⟩

/-- The first k symbols of n, and zeros. -/
def arrG (n k : Nat) : List Int := ints (grp n k) ++ List.replicate (8 - k) 0

theorem arrG_len (n : Nat) {k : Nat} (hk : k ≤ 8) : (arrG n k).length = 8 := by
  unfold arrG
  rw [List.length_append, ints_length, grp_length, List.length_replicate]
  omega

theorem arrG_end (n : Nat) : arrG n 8 = ints (grp n 8) := by
  unfold arrG
  simp

theorem arrG_set (n : Nat) {k : Nat} (hk : k < 8) : (arrG n k).set k ((n / 16 ^ k % 16 : Nat) : Int) = arrG n (k + 1) := by
  unfold arrG
  obtain ⟨m, hm⟩ : ∃ m, 8 - k = m + 1 := ⟨7 - k, by omega⟩
  have hl : (ints (grp n k)).length = k := by rw [ints_length, grp_length]
  rw [← grp_step, hm, show 8 - (k + 1) = m by omega, List.replicate_succ, List.set_append_right _ _ (by omega), hl, Nat.sub_self, List.set_cons_zero, List.append_assoc]
  rfl

set_option maxHeartbeats 4000000 in
set_option maxRecDepth 100000 in
theorem implSplit_is (n : Nat) (hn : n < 4294967296) (a0 a1 a2 a3 a4 a5 a6 a7 : Int) (hl : ints (grp n 8) = [a0, a1, a2, a3, a4, a5, a6, a7]) (w : World) :
    Calls Tryd.prog 110 #[.int .i64 (n : Int)] w (Gives (.agg #[.int .i64 a0, .int .i64 a1, .int .i64 a2, .int .i64 a3, .int .i64 a4, .int .i64 a5, .int .i64 a6, .int .i64 a7]) w) := by
  have HL := Lib.hid hl
  clear hl
  go_enter Tryd.func110, Tryd.ntmps110
  go_wp2_with fail
  generalize hw2 : (w.alloc (.cells #[.int .i64 0, .int .i64 0, .int .i64 0, .int .i64 0, .int .i64 0, .int .i64 0, .int .i64 0, .int .i64 0] 131)).alloc (.cells #[.int .i64 0, .int .i64 0, .int .i64 0, .int .i64 0, .int .i64 0, .int .i64 0, .int .i64 0, .int .i64 0] 131) = w2
  have HB2 : Hid (Below w.heap.size w w2) := by show Below _ _ _; rw [← hw2]; exact ((Below.refl _ _).alloc (Nat.le_refl _) _).alloc (by simp) _
  have r2 : w2.heap[w.heap.size]? = some (.cells (cI (arrG n 0)) 131 (0, 0)) := by rw [← hw2]; exact heap_alloc2_old _ _ _
  have t2 : w2.heap[w.heap.size + 1]? = some (.cells (cI (arrG n 0)) 131 (0, 0)) := by rw [← hw2]; exact heap_alloc2_new _ _ _
  clear hw2
  go_loopw [0, 5] (fun x i wr => ∃ k : Nat, k ≤ 8 ∧ i = .int .i64 k ∧ x = .int .i64 ((n / 16 ^ k : Nat) : Int) ∧ Hid (Below w.heap.size w wr) ∧ wr.heap[w.heap.size]? = some (.cells (cI (arrG n 0)) 131 (0, 0)) ∧ wr.heap[w.heap.size + 1]? = some (.cells (cI (arrG n k)) 131 (0, 0))) (fun _ i _ => 9 - (intOf i).toNat)
  case atStart => exact ⟨0, by omega, rfl, by rw [Nat.pow_zero, Nat.div_one], HB2, r2, t2⟩
  case round =>
    obtain ⟨k, hk, rfl, rfl, HBr, pr, pt⟩ := hrel
    by_cases hlt : k < 8
    case neg =>
      obtain rfl : k = 8 := by omega
      (try rw [show ((8 : Nat) : Int) = 8 from rfl])
      rw [arrG_end] at pt
      obtain ⟨b0, b1, b2, b3, b4, b5, b6, b7, hl0⟩ := eightI (l := arrG n 0) (arrG_len n (by omega))
      rw [HL.out] at pt
      rw [hl0] at pr
      have pt' : wr.heap[w.heap.size + 1]? = some (.cells #[.int .i64 a0, .int .i64 a1, .int .i64 a2, .int .i64 a3, .int .i64 a4, .int .i64 a5, .int .i64 a6, .int .i64 a7] 131 (0, 0)) := pt
      have pr' : wr.heap[w.heap.size]? = some (.cells #[.int .i64 b0, .int .i64 b1, .int .i64 b2, .int .i64 b3, .int .i64 b4, .int .i64 b5, .int .i64 b6, .int .i64 b7] 131 (0, 0)) := pr
      clear hl0 pt pr
      go_wp2_with (first | ((with_reducible refine load_list Tryd.underlying131 rfl ?_ ?_ ?_ pt' ?_); kernel_rfl; kernel_rfl; kernel_rfl; go_simp) | ((with_reducible refine store_list (cells := #[.int .i64 a0, .int .i64 a1, .int .i64 a2, .int .i64 a3, .int .i64 a4, .int .i64 a5, .int .i64 a6, .int .i64 a7]) pr' ?_ ?_ ?_ ?_ ?_ ?_); kernel_rfl; kernel_rfl; kernel_rfl; kernel_rfl; kernel_rfl))
      have hr5 := setRow_same wr w.heap.size #[.int .i64 a0, .int .i64 a1, .int .i64 a2, .int .i64 a3, .int .i64 a4, .int .i64 a5, .int .i64 a6, .int .i64 a7] _ _ pr'
      exact bodyPost_ret (v := .agg #[.int .i64 a0, .int .i64 a1, .int .i64 a2, .int .i64 a3, .int .i64 a4, .int .i64 a5, .int .i64 a6, .int .i64 a7]) (results_cell_row rfl _ _ w.heap.size 131 #[.int .i64 a0, .int .i64 a1, .int .i64 a2, .int .i64 a3, .int .i64 a4, .int .i64 a5, .int .i64 a6, .int .i64 a7] (0, 0) _ rfl hr5 Tryd.underlying131 rfl (by kernel_rfl)) rfl ⟨rfl, below_setRow HBr.out (Nat.le_refl _) _⟩
    obtain ⟨d, hd⟩ : ∃ d, n / 16 ^ k = d := ⟨_, rfl⟩
    have hd2 : n / 16 ^ (k + 1) = d / 16 := by rw [← hd, Nat.pow_succ, Nat.div_div_eq_div_mul]
    have hdn : d ≤ n := by rw [← hd]; exact Nat.div_le_self _ _
    have hset := arrG_set n hlt
    rw [hd] at hset ⊢
    have e1 : (d : Int).tmod 16 = ((d % 16 : Nat) : Int) := by rw [Int.tmod_eq_emod_of_nonneg (by omega)]; omega
    have e2 : (d : Int).tdiv 16 = ((d / 16 : Nat) : Int) := by rw [Int.tdiv_eq_ediv_of_nonneg (by omega)]; omega
    have hlt' : (k : Int) < 8 := by omega
    have wk : IntKind.i64.wrap ((k : Int) + 1) = (k : Int) + 1 := IntWalk.i64_in _ (by omega)
    have ce := cI_at pt (k := k) (by rw [arrG_len n hk]; exact hlt)
    have cf := thawed pt k
    have P2 : Hid ((wr.setCell ⟨w.heap.size + 1, k, none⟩ (.int .i64 ((d % 16 : Nat) : Int))).heap[w.heap.size + 1]? = some (.cells (cI (arrG n (k + 1))) 131 (0, 0))) := by
      show _ = _
      rw [← hset, ← cI_set]
      exact set_cells pt k _
    have R2 : Hid ((wr.setCell ⟨w.heap.size + 1, k, none⟩ (.int .i64 ((d % 16 : Nat) : Int))).heap[w.heap.size]? = some (.cells (cI (arrG n 0)) 131 (0, 0))) := (Below.heap_setCell _ _ _ _ (by simp)).trans pr
    have HB2 : Hid (Below w.heap.size w (wr.setCell ⟨w.heap.size + 1, k, none⟩ (.int .i64 ((d % 16 : Nat) : Int)))) := HBr.out.setCell (Nat.le_succ _) _
    have HD2 := Lib.hid hd2
    have HDN := Lib.hid hdn
    clear pr pt hset hd hd2 HBr r2 t2
    go_wp2_with fail
    go_roundw
    case rel => exact ⟨k + 1, by omega, by go_num, by rw [HD2.out]; exact congrArg _ (by omega), HB2, R2.out, P2.out⟩
    case measure => simp [intOf]; omega

set_option maxHeartbeats 4000000 in
set_option maxRecDepth 100000 in
theorem implSymbolsOfWord_is : ISymbolsOfWord := by
  intro x k hk v hv hk2 w
  have HK := Lib.hid hk2
  by_cases hx : Wd x
  case neg =>
    have KA := Lib.hid (decide_eq_false hx)
    have HV0 : Hid (v = []) := by show _ = _; rw [← hv]; exact symW_no hx
    clear hx hv hk2
    go_enter Tryd.func92, Tryd.ntmps92
    go_wp2_with fail
    refine (implIsWord_is x false KA.out _).mono ?_
    rintro e w2 ⟨rfl, rfl⟩
    go_wp2_with fail
    go_ret
    exact givesJ_nil HV0.out HK.out (Below.refl _ _)
  have KA := Lib.hid (decide_eq_true hx)
  obtain ⟨n, rfl⟩ := Int.eq_ofNat_of_zero_le hx.1
  have hn : n < 4294967296 := by have := hx.2; omega
  have HV : Hid (ints (grp n 8) = v) := by show _ = _; rw [← hv]; exact (symW_nat hx).symm
  obtain rfl : k = 8 := by rw [← hk2, ← HV.out, ints_length, grp_length]
  obtain ⟨a0, a1, a2, a3, a4, a5, a6, a7, hl⟩ := eightI (l := ints (grp n 8)) (by rw [ints_length, grp_length])
  have HL := Lib.hid hl
  obtain ⟨i0, hi, hz0, hz1, hz2⟩ := info_parts infoI
  clear hx hv hk2 hl
  go_enter Tryd.func92, Tryd.ntmps92
  go_wp2_with fail
  refine (implIsWord_is (n : Int) true KA.out _).mono ?_
  rintro e w2 ⟨rfl, rfl⟩
  go_wp2_with fail
  refine (implSplit_is n hn a0 a1 a2 a3 a4 a5 a6 a7 HL.out _).mono ?_
  rintro e w3 ⟨rfl, hb3⟩
  have HB3 := Lib.hid hb3
  clear hb3
  have pz := heap_alloc_new w3 (.cells #[.int .i64 0, .int .i64 0, .int .i64 0, .int .i64 0, .int .i64 0, .int .i64 0, .int .i64 0, .int .i64 0] 131)
  go_wp2_with (first | ((with_reducible refine store_list (cells := #[.int .i64 a0, .int .i64 a1, .int .i64 a2, .int .i64 a3, .int .i64 a4, .int .i64 a5, .int .i64 a6, .int .i64 a7]) pz ?_ ?_ ?_ ?_ ?_ ?_); kernel_rfl; kernel_rfl; kernel_rfl; kernel_rfl; kernel_rfl) | (at_make; refine wpList_make_full _ rfl _ _ 29 rfl ((w3.alloc (.cells #[.int .i64 0, .int .i64 0, .int .i64 0, .int .i64 0, .int .i64 0, .int .i64 0, .int .i64 0, .int .i64 0] 131)).setRow w3.heap.size #[.int .i64 a0, .int .i64 a1, .int .i64 a2, .int .i64 a3, .int .i64 a4, .int .i64 a5, .int .i64 a6, .int .i64 a7]).heap.size 3 i0 (.int .i64 0) 1 Tryd.underlying29 hi hz0 hz1 _ _ _ _ 8 rfl rfl rfl rfl (by rw [hz2]; omega) (by unfold maxLen; omega) (Nat.le_refl _) ?_))
  intro w5 hown hgr
  have r4 := setRow_same (w3.alloc (.cells #[.int .i64 0, .int .i64 0, .int .i64 0, .int .i64 0, .int .i64 0, .int .i64 0, .int .i64 0, .int .i64 0] 131)) w3.heap.size #[.int .i64 a0, .int .i64 a1, .int .i64 a2, .int .i64 a3, .int .i64 a4, .int .i64 a5, .int .i64 a6, .int .i64 a7] _ _ pz
  have hb4 : Below w.heap.size w ((w3.alloc (.cells #[.int .i64 0, .int .i64 0, .int .i64 0, .int .i64 0, .int .i64 0, .int .i64 0, .int .i64 0, .int .i64 0] 131)).setRow w3.heap.size #[.int .i64 a0, .int .i64 a1, .int .i64 a2, .int .i64 a3, .int .i64 a4, .int .i64 a5, .int .i64 a6, .int .i64 a7]) := below_setRow (HB3.out.alloc HB3.out.size _) HB3.out.size _
  have hsz : ((w3.alloc (.cells #[.int .i64 0, .int .i64 0, .int .i64 0, .int .i64 0, .int .i64 0, .int .i64 0, .int .i64 0, .int .i64 0] 131)).setRow w3.heap.size #[.int .i64 a0, .int .i64 a1, .int .i64 a2, .int .i64 a3, .int .i64 a4, .int .i64 a5, .int .i64 a6, .int .i64 a7]).heap.size = w3.heap.size + 1 := by simp
  generalize (w3.alloc (.cells #[.int .i64 0, .int .i64 0, .int .i64 0, .int .i64 0, .int .i64 0, .int .i64 0, .int .i64 0, .int .i64 0] 131)).setRow w3.heap.size #[.int .i64 a0, .int .i64 a1, .int .i64 a2, .int .i64 a3, .int .i64 a4, .int .i64 a5, .int .i64 a6, .int .i64 a7] = w4 at hown hgr r4 hb4 hsz
  have hb5 : Below w4.heap.size w4 w5 := (Below.refl _ _).grown hgr (Nat.le_refl _) (fun k hk => by cases hk)
  have hO5 : OwnI w4.heap.size (.slice (some ⟨w3.heap.size + 1, 0, none⟩) 8 8) [0, 0, 0, 0, 0, 0, 0, 0] w5 := by
    unfold OwnI
    rw [hsz]
    rw [made_one] at hown
    exact hown
  have r5 := keep_block hb5 r4 (lt_of_block r4)
  have HR5 : Hid (RowI w5 (some ⟨w3.heap.size, 0, none⟩) [a0, a1, a2, a3, a4, a5, a6, a7]) := row_cI (t := 131) r5
  have HB5 : Hid (Below w.heap.size w w5) := hb4.trans (hb5.mono hb4.size)
  have HO5 : Hid (OwnJ w.heap.size (.slice (some ⟨w3.heap.size + 1, 0, none⟩) 8 8) [0, 0, 0, 0, 0, 0, 0, 0] w5) := (hO5.toJ rfl).mono hb4.size
  clear pz r4 r5 hb4 hb5 hO5 hgr hown HB3 hsz
  generalize w3.heap.size + 1 = gs at HO5 ⊢
  generalize w3.heap.size = ga at HR5 ⊢
  go_wp2_with (refine copy_row rfl _ _ rfl w.heap.size gs 0 8 8 _ rfl HO5.out ⟨ga, 0, none⟩ 8 8 _ rfl HR5.out rfl (by decide) (by decide) ?_)
  intro w6 hown6 hb6
  have HO6 : Hid (OwnJ w.heap.size (.slice (some ⟨gs, 0, none⟩) 8 8) v w6) := by show OwnJ _ _ _ _; rw [← HV.out, HL.out]; exact hown6
  have HB6 : Hid (Below w.heap.size w w6) := HB5.out.trans hb6
  clear hown6 hb6 HO5 HR5 HB5
  go_wp2_with fail
  go_ret
  exact ⟨_, 8, rfl, Nat.le_refl _, HO6.out, HB6.out⟩

end Go.Proofs.YtfpfgaifhmgpiaaDoor
