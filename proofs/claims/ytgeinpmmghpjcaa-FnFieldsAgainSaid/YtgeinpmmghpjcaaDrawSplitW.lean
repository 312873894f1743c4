/-
  spec.DrawSplitFields: some text of at most 2000 bytes.
-/
import Derived.Test.YtgeinpmmghpjcaaDraw2W
import Derived.Deep.DeepCutAuto
import Derived.Deep.CutBlock
namespace Go.Proofs.Ytgeinpmmghpjcaa
open Go.RowKit Go.PlainAid
set_option linter.unusedVariables false

def DrewT (n : Nat) (w : World) (e : Ending) (w' : World) : Prop := ∃ s : ByteArray, e = .returned (.string s) ∧ s.size ≤ n ∧ Below w.heap.size w w'

theorem Only.of_below {c : Nat} {w w' : World} (h : Below w.heap.size w w') : Only c w w' := ⟨h.os, h.tape, h.output, h.size, fun k hk _ => h.block k hk⟩
theorem Cur.below {c B : Nat} {w w' : World} (h : Cur c B w) (hb : Below w.heap.size w w') : Cur c B w' := by
  have hlt := h.lt
  obtain ⟨a, len, cap, zs, i, g, hh, hB, hrow, ha, r⟩ := h
  exact ⟨a, len, cap, zs, i, g, by rw [hb.block c hlt]; exact hh, hB, hrow.below ha (hb.mono (by omega)), ha, r⟩
theorem size_one (x : UInt8) : (⟨#[x]⟩ : ByteArray).size = 1 := rfl
theorem size_cat (a b : ByteArray) : (a ++ b).size = a.size + b.size := ByteArray.size_append

set_option maxHeartbeats 4000000 in
set_option maxRecDepth 100000 in
theorem drawSplit_any {a : Option Addr} {len cap : Nat} {zs : List Int} {w : World} (hr : IsRow .u8 w a len cap zs) :
    Calls Try.prog 12 #[.slice a len cap] w (DrewT 2000 w) := by
  go_enter Try.func12, Try.ntmps12
  go_wp2_with fail
  refine (l01New_any hr).mono ?_
  rintro e w1 ⟨c, rfl, hBc, hc1, hb1⟩
  have hlt1 := hc1.lt
  have hs1 := hb1.size
  have HB1 := Lib.hid hb1
  clear hr hb1
  go_wp2_with fail
  refine (l01Below_any hc1 9 (by omega)).mono ?_
  rintro e w2 ⟨n, rfl, hn0, hn1, hc2, ho2⟩
  rw [topOf_pos (by omega)] at hn1
  go_wp2_with fail
  refine (l01Once_any hc2 15 (by omega)).mono ?_
  rintro e w3 ⟨b, rfl, hc3, ho3⟩
  have ho13 := ho2.trans ho3
  clear hc1 hc2 ho2 ho3
  go_upto_if 13 with fail
  go_cut [4] (fun s4 wx => ∃ m : Int, s4 = .int .i64 m ∧ 0 ≤ m ∧ m ≤ 25 ∧ Cur c w.heap.size wx ∧ Only c w1 wx)
  case first =>
    cases b
    · go_wp2_with fail
      go_meet
      exact ⟨n, rfl, by omega, by omega, hc3, ho13⟩
    · go_wp2_with fail
      refine (l01Below_any hc3 2 (by omega)).mono ?_
      rintro e w4 ⟨m, rfl, hm0, hm1, hc4, ho4⟩
      rw [topOf_pos (by omega)] at hm1
      go_wp2_with fail
      go_meet
      exact ⟨_, rfl, by omega, by omega, hc4, ho13.trans ho4⟩
  case rest =>
    obtain ⟨m, rfl, hm0, hm1, hcx, hox⟩ := hcut
    clear hc3 ho13
    go_wp2_with fail
    go_loopw [5, 6, 7] (fun s5 s6 s7 wr => ∃ i : Nat, ∃ s : ByteArray, s6 = .int .i64 i ∧ i ≤ 25 ∧ s5 = .string s ∧ s.size ≤ 20 * i ∧ Cur c w.heap.size wr ∧ Only c w1 wr) (fun _ i _ _ => 25 - (intOf i).toNat)
    case atStart => exact ⟨0, ByteArray.empty, rfl, by omega, rfl, by decide, hcx, hox⟩
    case round =>
      obtain ⟨i, s, rfl, hi, rfl, hs, hcr, hor⟩ := hrel
      clear hcx hox
      by_cases hlt : (i : Int) < m
      · have hi25 : i < 25 := by omega
        go_upto_region 9 with fail
        go_cut [27] (fun t wx => ∃ b : Bool, t = .bool b ∧ Cur c w.heap.size wx ∧ Only c w1 wx)
        case first =>
          rcases Nat.eq_zero_or_pos i with rfl | h0
          rotate_left
          · go_wp2_with fail
            go_meet
            exact ⟨true, rfl, hcr, hor⟩
          · go_wp2_with fail
            refine (l01Once_any hcr 5 (by omega)).mono ?_
            rintro e w4 ⟨x, rfl, hc4, ho4⟩
            go_wp2_with fail
            go_meet
            exact ⟨x, rfl, hc4, hor.trans ho4⟩
        case rest =>
          obtain ⟨b, rfl, hcx, hox⟩ := hcut
          clear hcr hor
          go_upto_if 27 with fail
          go_cut [5] (fun t wx => ∃ s2 : ByteArray, t = .string s2 ∧ s2.size ≤ 20 * i + 3 ∧ Cur c w.heap.size wx ∧ Only c w1 wx)
          case first =>
            cases b
            · go_wp2_with fail
              go_meet
              exact ⟨s, rfl, by omega, hcx, hox⟩
            · go_wp2_with fail
              refine (l01Below_any hcx 2 (by omega)).mono ?_
              rintro e w4 ⟨x, rfl, hx0, hx1, hc4, ho4⟩
              rw [topOf_pos (by omega)] at hx1
              go_wp2_with fail
              refine (l01Below_any hc4 3 (by omega)).mono ?_
              rintro e w5 ⟨y, rfl, hy0, hy1, hc5, ho5⟩
              rw [topOf_pos (by omega)] at hy1
              have hxy : 0 ≤ x * y ∧ x * y ≤ 2 := by
                have : x = 0 ∨ x = 1 := by omega
                rcases this with rfl | rfl
                · omega
                · omega
              obtain ⟨hxy0, hxy1⟩ := hxy
              go_wp2_with fail
              refine (l01Long_any _ _ _ (by omega) (by omega) (by omega) (by omega)).mono ?_
              rintro e w6 ⟨t, rfl, ht, hb6⟩
              have ht3 : t.size ≤ 3 := by omega
              have hc6 := hc5.below hb6
              have ho6 := ((hox.trans ho4).trans ho5).trans (Only.of_below hb6)
              clear hcx hox hc4 ho4 hc5 ho5 hb6 ht
              go_wp2_with fail
              go_meet
              exact ⟨_, rfl, by rw [size_cat]; omega, hc6, ho6⟩
          case rest =>
            obtain ⟨s2, rfl, hs2, hcy, hoy⟩ := hcut
            clear hcx hox
            go_wp2_with fail
            go_loopw [5, 7] (fun s5 s7 wr => ∃ k : Nat, ∃ s : ByteArray, s7 = .int .i64 k ∧ k ≤ 5 ∧ s5 = .string s ∧ s.size ≤ 20 * i + 3 + k ∧ Cur c w.heap.size wr ∧ Only c w1 wr) (fun _ k _ => 5 - (intOf k).toNat)
            case atStart => exact ⟨0, s2, rfl, by omega, rfl, by omega, hcy, hoy⟩
            case round =>
              obtain ⟨k, s3, rfl, hk, rfl, hs3, hcz, hoz⟩ := hrel
              clear hcy hoy
              go_wp2_with fail
              refine (l01Below_any hcz 5 (by omega)).mono ?_
              rintro e w4 ⟨x, rfl, hx0, hx1, hc4, ho4⟩
              rw [topOf_pos (by omega)] at hx1
              have ho4' := hoz.trans ho4
              clear hcz hoz ho4
              by_cases hkx : (k : Int) ≤ x
              · go_wp2_with fail
                refine (l01Below_any hc4 94 (by omega)).mono ?_
                rintro e w5 ⟨y, rfl, hy0, hy1, hc5, ho5⟩
                rw [topOf_pos (by omega)] at hy1
                have hcv := conv_one w5 (33 + y) (by omega) (by omega)
                have hc6 := hc5.alloc (.cells #[.int .u8 (33 + y)] 5)
                have ho6 := (ho4'.trans ho5).alloc (.cells #[.int .u8 (33 + y)] 5)
                clear hc4 ho4' hc5 ho5
                go_wp2_with fail
                go_roundw
                case rel => exact ⟨k + 1, _, by go_num, by omega, rfl, by rw [size_cat, size_one]; omega, hc6, ho6⟩
                case measure => simp [intOf]; omega
              · go_wp2_with fail
                go_roundw
                case rel => exact ⟨i + 1, s3, by go_num, by omega, rfl, by omega, hc4, ho4'⟩
                case measure => simp [intOf]; omega
      · go_wp2_with fail
        refine (l01Below_any hcr 12 (by omega)).mono ?_
        rintro e w4 ⟨x, rfl, hx0, hx1, hc4, ho4⟩
        rw [topOf_pos (by omega)] at hx1
        have ho4' := hor.trans ho4
        have HEND : Hid (∀ wf : World, Only c w1 wf → Below w.heap.size w wf) := fun _ ho => HB1.out.trans (ho.below hBc hs1)
        clear hcr hor ho4
        by_cases hx : x = 0
        · subst hx
          have hlt4 := hc4.lt
          go_wp2_with fail
          refine (l01Pick_any (fun t => t.size ≤ 2) (hc4.alloc _) w4.heap.size 6 [⟨#[32]⟩, ⟨#[32, 32]⟩, ⟨#[9]⟩, ⟨#[10]⟩, ⟨#[127]⟩, ⟨#[233]⟩] (strs_new _ _ _ _ rfl) (by omega) (by decide) (by decide) (by decide)).mono ?_
          rintro e w5 ⟨t, rfl, ht, hc5, ho5⟩
          have ho6 := (ho4'.alloc _).trans ho5
          clear hc4 ho4' hc5 ho5
          go_wp2_with fail
          go_ret
          exact ⟨_, rfl, by rw [size_cat]; omega, HEND.out _ ho6⟩
        · by_cases hx1 : x = 1
          · subst hx1
            by_cases h600 : (s.size : Int) < 600
            · go_wp2_with fail
              refine (l01Below_any hc4 2 (by omega)).mono ?_
              rintro e w5 ⟨y, rfl, hy0, hy1, hc5, ho5⟩
              rw [topOf_pos (by omega)] at hy1
              go_wp2_with fail
              refine (l01Long_any _ _ _ (by omega) (by omega) (by omega) (by omega)).mono ?_
              rintro e w6 ⟨t, rfl, ht, hb6⟩
              have ht3 : t.size ≤ 601 := by omega
              have ho6 := (ho4'.trans ho5).trans (Only.of_below hb6)
              clear hc4 ho4' hc5 ho5 hb6 ht
              go_wp2_with fail
              go_ret
              exact ⟨_, rfl, by rw [size_cat]; omega, HEND.out _ ho6⟩
            · exfalso; omega
          · go_wp2_with fail
            go_ret
            exact ⟨_, rfl, by omega, HEND.out _ ho4'⟩
end Go.Proofs.Ytgeinpmmghpjcaa
