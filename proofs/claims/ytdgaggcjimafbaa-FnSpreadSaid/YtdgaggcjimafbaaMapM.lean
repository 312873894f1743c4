/-
  Line numbers to addresses and back: the numbers alone.
-/
import Derived.Test.YtdgaggcjimafbaaLineW
import Derived.Test.YtdgaggcjimafbaaSortM
namespace Go.Proofs.Ytdgaggcjimafbaa

theorem map_range {o d r n l : Int} (ho : 0 ≤ o ∧ o ≤ 2) (hn : 1 ≤ n) (hr : 1 ≤ r) (hd : 1 ≤ d) (l0 : 0 ≤ l) (l1 : l < n * r * d) :
    (0 ≤ mapBank o d r n l ∧ mapBank o d r n l < n) ∧ (0 ≤ mapRow o d r n l ∧ mapRow o d r n l < r) ∧ (0 ≤ mapCol o d r n l ∧ mapCol o d r n l < d) := by
  have q0 : 0 ≤ l / d := Int.ediv_nonneg l0 (by omega)
  have q1 : l / d < n * r := Int.ediv_lt_of_lt_mul (by omega) l1
  have p0 : 0 ≤ l / n := Int.ediv_nonneg l0 (by omega)
  have p1 : l / n < r * d := Int.ediv_lt_of_lt_mul (by omega) (by
    have e : r * d * n = n * r * d := by rw [Int.mul_comm (r * d) n, Int.mul_assoc]
    omega)
  have hoo : o = 0 ∨ o = 1 ∨ o = 2 := by omega
  rcases hoo with rfl | rfl | rfl
  · refine ⟨⟨Int.emod_nonneg _ (by omega), Int.emod_lt_of_pos _ (by omega)⟩, ⟨Int.ediv_nonneg q0 (by omega), ?_⟩, ⟨Int.emod_nonneg _ (by omega), Int.emod_lt_of_pos _ (by omega)⟩⟩
    exact Int.ediv_lt_of_lt_mul (by omega) (by rw [Int.mul_comm r n]; exact q1)
  · refine ⟨⟨Int.emod_nonneg _ (by omega), Int.emod_lt_of_pos _ (by omega)⟩, ⟨Int.ediv_nonneg p0 (by omega), ?_⟩, ⟨Int.emod_nonneg _ (by omega), Int.emod_lt_of_pos _ (by omega)⟩⟩
    exact Int.ediv_lt_of_lt_mul (by omega) p1
  · refine ⟨⟨Int.ediv_nonneg q0 (by omega), ?_⟩, ⟨Int.emod_nonneg _ (by omega), Int.emod_lt_of_pos _ (by omega)⟩, ⟨Int.emod_nonneg _ (by omega), Int.emod_lt_of_pos _ (by omega)⟩⟩
    exact Int.ediv_lt_of_lt_mul (by omega) q1

theorem map_line {o d r n l : Int} (ho : 0 ≤ o ∧ o ≤ 2) : lineOrd o d r n (mapBank o d r n l) (mapRow o d r n l) (mapCol o d r n l) = l := by
  have hoo : o = 0 ∨ o = 1 ∨ o = 2 := by omega
  have e1 := Int.mul_ediv_add_emod l d
  have e2 := Int.mul_ediv_add_emod (l / d) n
  have e3 := Int.mul_ediv_add_emod l n
  have e4 := Int.mul_ediv_add_emod (l / n) d
  have e5 := Int.mul_ediv_add_emod (l / d) r
  rcases hoo with rfl | rfl | rfl
  · show (l / d / n * n + l / d % n) * d + l % d = l
    rw [Int.mul_comm (l / d / n) n, e2, Int.mul_comm (l / d) d, e1]
  · show (l / n / d * d + l / n % d) * n + l % n = l
    rw [Int.mul_comm (l / n / d) d, e4, Int.mul_comm (l / n) n, e3]
  · show (l / d / r * r + l / d % r) * d + l % d = l
    rw [Int.mul_comm (l / d / r) r, e5, Int.mul_comm (l / d) d, e1]

theorem mapHash_range {h : Bool} {x y n : Int} (hx : 0 ≤ x ∧ x < n) : 0 ≤ mapHash h x y n ∧ mapHash h x y n < n := by
  cases h
  · exact hx
  · exact ⟨Int.emod_nonneg _ (by omega), Int.emod_lt_of_pos _ (by omega)⟩

theorem unHash_map {h : Bool} {x y n : Int} (hx : 0 ≤ x ∧ x < n) : unHash h (mapHash h x y n) y n = x := by
  cases h
  · rfl
  · show ((x + y) % n + n - y % n) % n = x
    have e1 := Int.mul_ediv_add_emod (x + y) n
    have e2 := Int.mul_ediv_add_emod y n
    have e : (x + y) % n + n - y % n = x + n * (1 - (x + y) / n + y / n) := by
      rw [Int.mul_add, Int.mul_sub]; omega
    rw [e, Int.add_mul_emod_self_left, Int.emod_eq_of_lt hx.1 hx.2]

/-- One step less than a whole turn is one step back. -/
theorem unHash_back {x y n : Int} : (x + y * (n - 1)) % n = unHash true x y n := by
  show _ = (x + n - y % n) % n
  have e2 := Int.mul_ediv_add_emod y n
  have e : x + y * (n - 1) = x + n - y % n + n * (y - 1 - y / n) := by
    rw [Int.mul_sub, Int.mul_sub, Int.mul_sub, Int.mul_comm y n]; omega
  rw [e, Int.add_mul_emod_self_left]

/-- The bank of a line. -/
def bankF (a b r d o : Int) (h : Bool) (l : Int) : Int := mapHash h (mapBank o d r (bankN a b r d) l) (mapRow o d r (bankN a b r d) l) (bankN a b r d)

theorem map_addr {a b r d o l : Int} {h : Bool} (ho : 0 ≤ o ∧ o ≤ 2) (kl : LnOk a b r d l) : AdOk a b r d (bankF a b r d o h l) (mapRow o d r (bankN a b r d) l) (mapCol o d r (bankN a b r d) l) := by
  have hn := kl.bank
  obtain ⟨_, _, ⟨r1, _⟩, ⟨d1, _⟩⟩ := kl.geo
  obtain ⟨l0, l1⟩ := kl
  unfold lineN at l1
  obtain ⟨hb, hr, hc⟩ := map_range (o := o) ho hn (show 1 ≤ r by omega) d1 l0 (by omega)
  have hh := mapHash_range (h := h) (y := mapRow o d r (bankN a b r d) l) hb
  unfold AdOk bankF
  omega

theorem map_back {a b r d o l : Int} {h : Bool} (ho : 0 ≤ o ∧ o ≤ 2) (kl : LnOk a b r d l) : lineF a b r d o h (bankF a b r d o h l) (mapRow o d r (bankN a b r d) l) (mapCol o d r (bankN a b r d) l) = l := by
  unfold lineF
  rw [if_pos ⟨ho, map_addr ho kl⟩]
  have hn := kl.bank
  obtain ⟨_, _, ⟨r1, _⟩, ⟨d1, _⟩⟩ := kl.geo
  obtain ⟨l0, l1⟩ := kl
  unfold lineN at l1
  obtain ⟨hb, _, _⟩ := map_range (o := o) ho hn (show 1 ≤ r by omega) d1 l0 (by omega)
  unfold bankF
  rw [unHash_map hb]
  exact map_line ho

theorem mapF_ok {a b r d o l : Int} {h : Bool} (ho : 0 ≤ o ∧ o ≤ 2) (kl : LnOk a b r d l) : mapF a b r d o h l = adV (bankF a b r d o h l) (mapRow o d r (bankN a b r d) l) (mapCol o d r (bankN a b r d) l) true := if_pos ⟨ho, kl⟩

theorem bankF_range {a b r d o l : Int} {h : Bool} (ho : 0 ≤ o ∧ o ≤ 2) (kl : LnOk a b r d l) : 0 ≤ bankF a b r d o h l ∧ bankF a b r d o h l < bankN a b r d := by
  have := (map_addr (h := h) ho kl).1
  omega

/-- Every line that BanksTouched asks for is there. -/
def TouchOk (a b r d o k n : Int) : Prop := (0 ≤ o ∧ o ≤ 2) ∧ 1 ≤ n ∧ 0 ≤ k ∧ n ≤ lineN a b r d - k

instance (a b r d o k n : Int) : Decidable (TouchOk a b r d o k n) := by unfold TouchOk; infer_instance

/-- The banks of n lines from k on, each once, in order. -/
def touchF (a b r d o : Int) (h : Bool) (k n : Int) : List Int :=
  if TouchOk a b r d o k n then touchL (bankN a b r d).toNat (hits (bankF a b r d o h) k n.toNat) else []

theorem touchF_length_le (a b r d o : Int) (h : Bool) (k n : Int) : (touchF a b r d o h k n).length ≤ 8 := by
  unfold touchF
  split
  · have := touchL_length_le (bankN a b r d).toNat (hits (bankF a b r d o h) k n.toNat)
    have := bankN_range a b r d
    omega
  · simp

theorem touchF_one {a b r d o k : Int} {h : Bool} (ho : 0 ≤ o ∧ o ≤ 2) (hk : LnOk a b r d k) : (touchF a b r d o h k 1).length = 1 := by
  unfold touchF
  rw [if_pos ⟨ho, by omega, hk.1, by have := hk.2; omega⟩]
  have h1 := bankF_range (h := h) ho hk
  have e : hits (bankF a b r d o h) k (1 : Int).toNat = [bankF a b r d o h k] := by
    show hits _ k 1 = _
    simp [hits, List.range_succ]
  rw [e]
  exact touchL_one _ _ (by omega)

/-- Lines that share all but the lowest part, where the lowest part is the bank. -/
theorem touchF_all {a b r d q : Int} {h : Bool} (hg : GeoOk a b r d) (hq : 0 ≤ q ∧ q < r * d) : (touchF a b r d 1 h (bankN a b r d * q) (bankN a b r d)).length = (bankN a b r d).toNat := by
  obtain ⟨n, hn⟩ : ∃ n, bankN a b r d = n := ⟨_, rfl⟩
  have hn1 : 1 ≤ n := by
    rw [← hn]; unfold bankN; rw [if_pos hg]
    obtain ⟨h1, h2, _⟩ := hg
    have := Int.mul_pos (show 0 < a by omega) (show 0 < b by omega)
    omega
  have hl : lineN a b r d = n * (r * d) := by unfold lineN; rw [hn, Int.mul_assoc]
  have hq2 : n * q + n ≤ n * (r * d) := by
    have := Int.mul_le_mul_of_nonneg_left (show q + 1 ≤ r * d by omega) (show 0 ≤ n by omega)
    rw [Int.mul_add, Int.mul_one] at this
    exact this
  have hk0 : 0 ≤ n * q := Int.mul_nonneg (by omega) hq.1
  unfold touchF
  rw [hn, if_pos ⟨by decide, by omega, hk0, by omega⟩]
  refine touchL_all _ _ fun c hc => ?_
  rw [hits_mem]
  -- the place of bank c
  obtain ⟨y, hy⟩ : ∃ y, q / d = y := ⟨_, rfl⟩
  have key : ∀ i : Int, 0 ≤ i → i < n → bankF a b r d 1 h (n * q + i) = mapHash h i y n := by
    intro i i0 i1
    have e1 : (n * q + i) % n = i := by rw [Int.add_comm, Int.add_mul_emod_self_left, Int.emod_eq_of_lt i0 i1]
    have e2 : (n * q + i) / n = q := by rw [Int.add_comm, Int.add_mul_ediv_left _ _ (by omega), Int.ediv_eq_zero_of_lt i0 i1, Int.zero_add]
    unfold bankF
    rw [hn]
    have a1 : mapBank 1 d r n (n * q + i) = i := e1
    have a2 : mapRow 1 d r n (n * q + i) = y := by show (n * q + i) / n / d = y; rw [e2, hy]
    rw [a1, a2]
  have hun := unHash_range (h := h) (y := y) (show 0 ≤ (c : Int) ∧ (c : Int) < n by omega)
  refine ⟨(unHash h c y n).toNat, by omega, ?_⟩
  have hz : ((unHash h c y n).toNat : Int) = unHash h c y n := Int.toNat_of_nonneg hun.1
  rw [hz, key _ hun.1 hun.2]
  cases h
  · rfl
  · show ((c + n - y % n) % n + y) % n = c
    have e1 := Int.mul_ediv_add_emod (c + n - y % n) n
    have e2 := Int.mul_ediv_add_emod y n
    have e : (c + n - y % n) % n + y = c + n * (1 + y / n - (c + n - y % n) / n) := by
      rw [Int.mul_sub, Int.mul_add]; omega
    rw [e, Int.add_mul_emod_self_left, Int.emod_eq_of_lt (by omega) (by omega)]

end Go.Proofs.Ytdgaggcjimafbaa
