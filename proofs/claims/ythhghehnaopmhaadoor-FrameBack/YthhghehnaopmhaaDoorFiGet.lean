/-
  What varint.Get and varint.Shortest answer for whatever bytes: the number that they begin with and its width, or the error that the document names; nothing is written. Condition: the package-level table of widths holds 1, 2, 4, 8.
-/
import Derived.Test.YthhghehnaopmhaaDoorFiPut
namespace Go.Proofs.YthhghehnaopmhaaDoor.Fi
open Go.RowKit
set_option maxRecDepth 100000

set_option maxHeartbeats 1000000 in
theorem get_empty (a : Option Addr) (cap : Nat) (w : World) :
    Calls Tryd.prog 77 #[.slice a 0 cap] w fun e w' => e = .returned (.tuple #[.int .i64 0, .int .i64 0, .int .i64 3]) ∧ w' = w := by
  go_enter Tryd.func77, Tryd.ntmps77
  go_wp2
  go_ret3
  exact ⟨rfl, rfl⟩

set_option maxHeartbeats 1000000 in
theorem get_cut (b off len cap : Nat) (z : Int) (w : World) (hw : Wid w) (hm : len ≤ maxLen) (hp : 0 < len) (hc : w.cell? ⟨b, off, none⟩ = some (.int .u8 z)) (k : Nat) (hz : z / 64 = k) (h0 : 0 ≤ z) (h1 : z < 256) (hl : len < 2 ^ k) :
    Calls Tryd.prog 77 #[.slice (some ⟨b, off, none⟩) len cap] w fun e w' => e = .returned (.tuple #[.int .i64 0, .int .i64 0, .int .i64 3]) ∧ w' = w := by
  obtain ⟨c0, c1, c2, c3⟩ := hw
  unfold maxLen at hm
  have hne : ((len : Int) == 0) = false := by simp; omega
  have hk : k = 0 ∨ k = 1 ∨ k = 2 ∨ k = 3 := by omega
  rcases hk with rfl | rfl | rfl | rfl
  all_goals
    simp at hz hl
  · omega
  all_goals
    go_enter Tryd.func77, Tryd.ntmps77
    go_wp2
    go_ret3
    exact ⟨rfl, rfl⟩

/-- The number that k + 1 bytes say, the first one without its mark. -/
def gval (zs : List Int) : Nat → Int
  | 0 => zs.getD 0 0 % 64
  | k + 1 => gval zs k * 256 + zs.getD (k + 1) 0

theorem gval_bd (zs : List Int) (hb : ∀ i, 0 ≤ zs.getD i 0 ∧ zs.getD i 0 < 256) (k : Nat) : 0 ≤ gval zs k ∧ gval zs k < 64 * 256 ^ k := by
  induction k with
  | zero => simp only [gval]; omega
  | succ k ih =>
    have := hb (k + 1)
    simp only [gval]
    have e : (256 : Int) ^ (k + 1) = 256 ^ k * 256 := Int.pow_succ 256 k
    rw [e]
    omega

theorem gval_lt (zs : List Int) (hb : ∀ i, 0 ≤ zs.getD i 0 ∧ zs.getD i 0 < 256) (k : Nat) (hk : k < 7) : 0 ≤ gval zs k ∧ gval zs k < 18014398509481984 := by
  have h := gval_bd zs hb k
  have : (64 * 256 ^ k : Int) ≤ 18014398509481984 := by
    match k, hk with
    | 0, _ => decide
    | 1, _ => decide
    | 2, _ => decide
    | 3, _ => decide
    | 4, _ => decide
    | 5, _ => decide
    | 6, _ => decide
  omega

theorem or_join (x y : Int) (h0 : 0 ≤ x) (h1 : x < 18014398509481984) (h2 : 0 ≤ y) (h3 : y < 256) : bits .or .i64 (x * 256) y = x * 256 + y :=
  bits_join .i64 63 (by decide) wraps_i64 8 _ _ (by omega) (by omega) (by omega) h2 (by omega) (by omega)

set_option maxHeartbeats 2000000 in
theorem get_ok (b off len cap : Nat) (zs : List Int) (w : World) (hw : Wid w) (hlc : len ≤ cap) (hm : cap ≤ maxLen)
    (hc : ∀ i, i < len → w.cell? ⟨b, off + i, none⟩ = some (.int .u8 (zs.getD i 0))) (hb : ∀ i, 0 ≤ zs.getD i 0 ∧ zs.getD i 0 < 256)
    (k : Nat) (hz : zs.getD 0 0 / 64 = k) (hl : 2 ^ k ≤ len) :
    Calls Tryd.prog 77 #[.slice (some ⟨b, off, none⟩) len cap] w fun e w' => e = .returned (.tuple #[.int .i64 (gval zs (2 ^ k - 1)), .int .i64 (2 ^ k : Nat), .int .i64 0]) ∧ w' = w := by
  obtain ⟨c0, c1, c2, c3⟩ := hw
  unfold maxLen at hm
  obtain ⟨h0, h1⟩ := hb 0
  have hp : 0 < len := Nat.lt_of_lt_of_le (Nat.two_pow_pos k) hl
  have hcz : w.cell? ⟨b, off, none⟩ = some (.int .u8 (zs.getD 0 0)) := hc 0 hp
  obtain ⟨z, hz'⟩ : ∃ z, zs.getD 0 0 = z := ⟨_, rfl⟩
  have hg0 : gval zs 0 = z % 64 := by rw [← hz']; rfl
  rw [hz'] at h0 h1 hz hcz
  clear hz'
  have hne : ((len : Int) == 0) = false := by simp; omega
  have hk : k = 0 ∨ k = 1 ∨ k = 2 ∨ k = 3 := by omega
  have HC : Hid (∀ i, i < len → w.cell? ⟨b, off + i, none⟩ = some (.int .u8 (zs.getD i 0))) := hc
  have HB : Hid (∀ i, 0 ≤ zs.getD i 0 ∧ zs.getD i 0 < 256) := hb
  have HG : Hid (gval zs 0 = z % 64) := hg0
  clear hc hb hg0
  rcases hk with rfl | rfl | rfl | rfl
  · simp at hz hl
    rw [show gval zs (2 ^ 0 - 1) = z % 64 from HG.out]
    go_enter Tryd.func77, Tryd.ntmps77
    go_wp2
    all_goals
      go_rounds 1
      go_ret3
      exact ⟨rfl, rfl⟩
  · simp at hz hl
    go_enter Tryd.func77, Tryd.ntmps77
    go_wp2
    go_loop [2, 29] (fun n i => ∃ j : Nat, j ≤ 1 ∧ i = .int .i64 j ∧ n = .int .i64 (gval zs j)) (fun _ i => 8 - (intOf i).toNat)
    case atStart => exact ⟨0, by omega, rfl, by rw [HG.out]⟩
    case round =>
      obtain ⟨j, hj, rfl, rfl⟩ := hrel
      by_cases hlt : j < 1
      · have hcx : w.cell? ⟨b, off + 1 + j, none⟩ = some (.int .u8 (zs.getD (j + 1) 0)) := by rw [show off + 1 + j = off + (j + 1) by omega]; exact HC.out _ (by omega)
        obtain ⟨g0, g1⟩ := gval_lt zs HB.out j (by omega)
        obtain ⟨b0, b1⟩ := HB.out (j + 1)
        obtain ⟨y, hy⟩ : ∃ y, zs.getD (j + 1) 0 = y := ⟨_, rfl⟩
        have HY : Hid (gval zs (j + 1) = gval zs j * 256 + y) := by rw [← hy]; rfl
        rw [hy] at hcx b0 b1
        clear hy
        have ho := or_join (gval zs j) y g0 g1 b0 b1
        go_wp2
        go_round
        case rel => exact ⟨j + 1, by omega, by go_num, by rw [HY.out]⟩
        case measure => simp [intOf]; omega
      · obtain rfl : j = 1 := by omega
        go_wp2
        go_ret3
        exact ⟨rfl, rfl⟩
  · simp at hz hl
    go_enter Tryd.func77, Tryd.ntmps77
    go_wp2
    go_loop [2, 29] (fun n i => ∃ j : Nat, j ≤ 3 ∧ i = .int .i64 j ∧ n = .int .i64 (gval zs j)) (fun _ i => 8 - (intOf i).toNat)
    case atStart => exact ⟨0, by omega, rfl, by rw [HG.out]⟩
    case round =>
      obtain ⟨j, hj, rfl, rfl⟩ := hrel
      by_cases hlt : j < 3
      · have hcx : w.cell? ⟨b, off + 1 + j, none⟩ = some (.int .u8 (zs.getD (j + 1) 0)) := by rw [show off + 1 + j = off + (j + 1) by omega]; exact HC.out _ (by omega)
        obtain ⟨g0, g1⟩ := gval_lt zs HB.out j (by omega)
        obtain ⟨b0, b1⟩ := HB.out (j + 1)
        obtain ⟨y, hy⟩ : ∃ y, zs.getD (j + 1) 0 = y := ⟨_, rfl⟩
        have HY : Hid (gval zs (j + 1) = gval zs j * 256 + y) := by rw [← hy]; rfl
        rw [hy] at hcx b0 b1
        clear hy
        have ho := or_join (gval zs j) y g0 g1 b0 b1
        go_wp2
        go_round
        case rel => exact ⟨j + 1, by omega, by go_num, by rw [HY.out]⟩
        case measure => simp [intOf]; omega
      · obtain rfl : j = 3 := by omega
        go_wp2
        go_ret3
        exact ⟨rfl, rfl⟩
  · simp at hz hl
    go_enter Tryd.func77, Tryd.ntmps77
    go_wp2
    go_loop [2, 29] (fun n i => ∃ j : Nat, j ≤ 7 ∧ i = .int .i64 j ∧ n = .int .i64 (gval zs j)) (fun _ i => 8 - (intOf i).toNat)
    case atStart => exact ⟨0, by omega, rfl, by rw [HG.out]⟩
    case round =>
      obtain ⟨j, hj, rfl, rfl⟩ := hrel
      by_cases hlt : j < 7
      · have hcx : w.cell? ⟨b, off + 1 + j, none⟩ = some (.int .u8 (zs.getD (j + 1) 0)) := by rw [show off + 1 + j = off + (j + 1) by omega]; exact HC.out _ (by omega)
        obtain ⟨g0, g1⟩ := gval_lt zs HB.out j (by omega)
        obtain ⟨b0, b1⟩ := HB.out (j + 1)
        obtain ⟨y, hy⟩ : ∃ y, zs.getD (j + 1) 0 = y := ⟨_, rfl⟩
        have HY : Hid (gval zs (j + 1) = gval zs j * 256 + y) := by rw [← hy]; rfl
        rw [hy] at hcx b0 b1
        clear hy
        have ho := or_join (gval zs j) y g0 g1 b0 b1
        go_wp2
        go_round
        case rel => exact ⟨j + 1, by omega, by go_num, by rw [HY.out]⟩
        case measure => simp [intOf]; omega
      · obtain rfl : j = 7 := by omega
        go_wp2
        go_ret3
        exact ⟨rfl, rfl⟩

/-- What the walks ask of a slice of bytes: it is empty, or its first 'len' cells hold the numbers zs, each a byte. -/
def Row (w : World) (a : Option Addr) (len cap : Nat) (zs : List Int) : Prop :=
  len = 0 ∨ (0 < len ∧ ∃ b off, a = some ⟨b, off, none⟩ ∧ len ≤ cap ∧ cap ≤ maxLen ∧
    (∀ i, i < len → w.cell? ⟨b, off + i, none⟩ = some (.int .u8 (zs.getD i 0))) ∧ (∀ i, 0 ≤ zs.getD i 0 ∧ zs.getD i 0 < 256))

/-- Which of the widths the first byte's mark says. -/
def gk (zs : List Int) : Nat := (zs.getD 0 0 / 64).toNat

/-- What Get answers: number, width, error. -/
def getN (len : Nat) (zs : List Int) : Int := if len < 2 ^ gk zs ∨ len = 0 then 0 else gval zs (2 ^ gk zs - 1)
def getU (len : Nat) (zs : List Int) : Int := if len < 2 ^ gk zs ∨ len = 0 then 0 else (2 ^ gk zs : Nat)
def getE (len : Nat) (zs : List Int) : Int := if len < 2 ^ gk zs ∨ len = 0 then 3 else 0

theorem get_any (a : Option Addr) (len cap : Nat) (zs : List Int) (w : World) (hw : Wid w) (hr : Row w a len cap zs) :
    Calls Tryd.prog 77 #[.slice a len cap] w fun e w' => e = .returned (.tuple #[.int .i64 (getN len zs), .int .i64 (getU len zs), .int .i64 (getE len zs)]) ∧ w' = w := by
  unfold getN getU getE
  rcases hr with rfl | ⟨hp, b, off, rfl, hlc, hm, hc, hb⟩
  · rw [if_pos (.inr rfl), if_pos (.inr rfl), if_pos (.inr rfl)]
    exact get_empty a cap w
  · obtain ⟨h0, h1⟩ := hb 0
    have hz : zs.getD 0 0 / 64 = (gk zs : Nat) := by unfold gk; omega
    by_cases hl : len < 2 ^ gk zs
    · rw [if_pos (.inl hl), if_pos (.inl hl), if_pos (.inl hl)]
      exact get_cut b off len cap _ w hw (by omega) hp (hc 0 hp) (gk zs) hz h0 h1 hl
    · rw [if_neg (by omega), if_neg (by omega), if_neg (by omega)]
      exact get_ok b off len cap zs w hw hlc hm hc hb (gk zs) hz (by omega)

/-- What Shortest answers. -/
def shN (len : Nat) (zs : List Int) : Int := if getE len zs = 0 ∧ getU len zs ≤ lenOf (getN len zs) then getN len zs else 0
def shU (len : Nat) (zs : List Int) : Int := if getE len zs = 0 ∧ getU len zs ≤ lenOf (getN len zs) then getU len zs else 0
def shE (len : Nat) (zs : List Int) : Int := if getE len zs = 0 then (if getU len zs ≤ lenOf (getN len zs) then 0 else 4) else getE len zs

set_option maxHeartbeats 1000000 in
theorem shortest_any (a : Option Addr) (len cap : Nat) (zs : List Int) (w : World) (hw : Wid w) (hr : Row w a len cap zs) :
    Calls Tryd.prog 66 #[.slice a len cap] w fun e w' => e = .returned (.tuple #[.int .i64 (shN len zs), .int .i64 (shU len zs), .int .i64 (shE len zs)]) ∧ w' = w := by
  unfold shN shU shE
  have hg := get_any a len cap zs w hw hr
  generalize getN len zs = n at *
  generalize getU len zs = u at *
  generalize getE len zs = g at *
  by_cases h : g = 0
  · subst h
    by_cases h2 : u ≤ lenOf n
    · rw [if_pos ⟨rfl, h2⟩, if_pos ⟨rfl, h2⟩, if_pos rfl, if_pos h2]
      go_enter Tryd.func66, Tryd.ntmps66
      go_wp2_with (first | (go_at_call 77; refine hg.mono ?_; rintro e w' ⟨rfl, rfl⟩) | (go_at_call 62; refine (len_any n _ hw).mono ?_; rintro e w' ⟨rfl, rfl⟩))
      go_ret3
      exact ⟨rfl, rfl⟩
    · have h3 : lenOf n < u := by omega
      rw [if_neg (by omega), if_neg (by omega), if_pos rfl, if_neg h2]
      go_enter Tryd.func66, Tryd.ntmps66
      go_wp2_with (first | (go_at_call 77; refine hg.mono ?_; rintro e w' ⟨rfl, rfl⟩) | (go_at_call 62; refine (len_any n _ hw).mono ?_; rintro e w' ⟨rfl, rfl⟩))
      go_ret3
      exact ⟨rfl, rfl⟩
  · have h' : (g == 0) = false := by simpa using h
    rw [if_neg (by omega), if_neg (by omega), if_neg h]
    go_enter Tryd.func66, Tryd.ntmps66
    go_wp2_with (first | (go_at_call 77; refine hg.mono ?_; rintro e w' ⟨rfl, rfl⟩) | (go_at_call 62; refine (len_any n _ hw).mono ?_; rintro e w' ⟨rfl, rfl⟩))
    go_ret3
    exact ⟨rfl, rfl⟩
end Go.Proofs.YthhghehnaopmhaaDoor.Fi
