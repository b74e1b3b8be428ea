/-
  What the document's Get and Shortest answer for whatever bytes: just what varint.Get and varint.Shortest do; nothing is written.
-/
import Derived.Test.YtfccjeepmhgckaaDoorFiRow
namespace Go.Proofs.YtfccjeepmhgckaaDoor.Fi
open Go.RowKit
set_option maxRecDepth 100000

set_option maxHeartbeats 1000000 in
theorem rget_empty (a : Option Addr) (cap : Nat) (w : World) :
    Calls Tryd.prog 36 #[.slice a 0 cap] w fun e w' => e = .returned (.tuple #[.int .i64 0, .int .i64 0, .int .i64 3]) ∧ w' = w := by
  go_enter Tryd.func36, Tryd.ntmps36
  go_wp2
  go_ret3
  exact ⟨rfl, rfl⟩

set_option maxHeartbeats 1000000 in
theorem rget_cut (b off len cap : Nat) (z : Int) (w : World) (hm : len ≤ maxLen) (hp : 0 < len) (hc : w.cell? ⟨b, off, none⟩ = some (.int .u8 z)) (k : Nat) (hz : z / 64 = k) (h0 : 0 ≤ z) (h1 : z < 256) (hl : len < 2 ^ k) :
    Calls Tryd.prog 36 #[.slice (some ⟨b, off, none⟩) len cap] w fun e w' => e = .returned (.tuple #[.int .i64 0, .int .i64 0, .int .i64 3]) ∧ w' = w := by
  unfold maxLen at hm
  have hne : ((len : Int) == 0) = false := by simp; omega
  have hk : k = 0 ∨ k = 1 ∨ k = 2 ∨ k = 3 := by omega
  rcases hk with rfl | rfl | rfl | rfl
  all_goals
    simp at hz hl
  · omega
  all_goals
    go_enter Tryd.func36, Tryd.ntmps36
    go_wp2
    go_rounds 4
    go_ret3
    exact ⟨rfl, rfl⟩

set_option maxHeartbeats 2000000 in
theorem rget_ok (b off len cap : Nat) (zs : List Int) (w : World) (hlc : len ≤ cap) (hm : cap ≤ maxLen)
    (hc : ∀ i, i < len → w.cell? ⟨b, off + i, none⟩ = some (.int .u8 (zs.getD i 0))) (hb : ∀ i, 0 ≤ zs.getD i 0 ∧ zs.getD i 0 < 256)
    (k : Nat) (hz : zs.getD 0 0 / 64 = k) (hl : 2 ^ k ≤ len) :
    Calls Tryd.prog 36 #[.slice (some ⟨b, off, none⟩) len cap] w fun e w' => e = .returned (.tuple #[.int .i64 (gval zs (2 ^ k - 1)), .int .i64 (2 ^ k : Nat), .int .i64 0]) ∧ w' = w := by
  unfold maxLen at hm
  obtain ⟨h0, h1⟩ := hb 0
  have hp : 0 < len := Nat.lt_of_lt_of_le (Nat.two_pow_pos k) hl
  have hcz : w.cell? ⟨b, off, none⟩ = some (.int .u8 (zs.getD 0 0)) := hc 0 hp
  obtain ⟨z, hz'⟩ : ∃ z, zs.getD 0 0 = z := ⟨_, rfl⟩
  have hg0 : gval zs 0 = z % 64 := by rw [← hz']; rfl
  rw [hz'] at h0 h1 hz hcz
  clear hz'
  have hne : ((len : Int) == 0) = false := by simp; omega
  have hk : k = 0 ∨ k = 1 ∨ k = 2 ∨ k = 3 := by omega
  have HC : Hid (∀ i, i < len → w.cell? ⟨b, off + i, none⟩ = some (.int .u8 (zs.getD i 0))) := hc
  have HB : Hid (∀ i, 0 ≤ zs.getD i 0 ∧ zs.getD i 0 < 256) := hb
  have HG : Hid (gval zs 0 = z % 64) := hg0
  clear hc hb hg0
  rcases hk with rfl | rfl | rfl | rfl
  · simp at hz hl
    go_enter Tryd.func36, Tryd.ntmps36
    go_wp2
    go_rounds 4
    go_loop [7, 8] (fun n i => ∃ j : Nat, j ≤ 0 ∧ i = .int .i64 (j + 1) ∧ n = .int .i64 (gval zs j)) (fun _ i => 9 - (intOf i).toNat)
    case atStart => exact ⟨0, by omega, rfl, by rw [HG.out]⟩
    case round =>
      obtain ⟨j, hj, rfl, rfl⟩ := hrel
      obtain rfl : j = 0 := by omega
      go_wp2
      go_ret3
      exact ⟨rfl, rfl⟩
  · simp at hz hl
    go_enter Tryd.func36, Tryd.ntmps36
    go_wp2
    go_rounds 4
    go_loop [7, 8] (fun n i => ∃ j : Nat, j ≤ 1 ∧ i = .int .i64 (j + 1) ∧ n = .int .i64 (gval zs j)) (fun _ i => 9 - (intOf i).toNat)
    case atStart => exact ⟨0, by omega, rfl, by rw [HG.out]⟩
    case round =>
      obtain ⟨j, hj, rfl, rfl⟩ := hrel
      by_cases hlt : j < 1
      · have hcx : w.cell? ⟨b, off + (j + 1), none⟩ = some (.int .u8 (zs.getD (j + 1) 0)) := HC.out _ (by omega)
        obtain ⟨g0, g1⟩ := gval_lt zs HB.out j (by omega)
        obtain ⟨b0, b1⟩ := HB.out (j + 1)
        obtain ⟨y, hy⟩ : ∃ y, zs.getD (j + 1) 0 = y := ⟨_, rfl⟩
        have HY : Hid (gval zs (j + 1) = gval zs j * 256 + y) := by rw [← hy]; rfl
        rw [hy] at hcx b0 b1
        clear hy
        go_wp2
        go_round
        case rel => exact ⟨j + 1, by omega, by go_num, by rw [HY.out]; go_num⟩
        case measure => simp [intOf]; omega
      · obtain rfl : j = 1 := by omega
        go_wp2
        go_ret3
        exact ⟨rfl, rfl⟩
  · simp at hz hl
    go_enter Tryd.func36, Tryd.ntmps36
    go_wp2
    go_rounds 4
    go_loop [7, 8] (fun n i => ∃ j : Nat, j ≤ 3 ∧ i = .int .i64 (j + 1) ∧ n = .int .i64 (gval zs j)) (fun _ i => 9 - (intOf i).toNat)
    case atStart => exact ⟨0, by omega, rfl, by rw [HG.out]⟩
    case round =>
      obtain ⟨j, hj, rfl, rfl⟩ := hrel
      by_cases hlt : j < 3
      · have hcx : w.cell? ⟨b, off + (j + 1), none⟩ = some (.int .u8 (zs.getD (j + 1) 0)) := HC.out _ (by omega)
        obtain ⟨g0, g1⟩ := gval_lt zs HB.out j (by omega)
        obtain ⟨b0, b1⟩ := HB.out (j + 1)
        obtain ⟨y, hy⟩ : ∃ y, zs.getD (j + 1) 0 = y := ⟨_, rfl⟩
        have HY : Hid (gval zs (j + 1) = gval zs j * 256 + y) := by rw [← hy]; rfl
        rw [hy] at hcx b0 b1
        clear hy
        go_wp2
        go_round
        case rel => exact ⟨j + 1, by omega, by go_num, by rw [HY.out]; go_num⟩
        case measure => simp [intOf]; omega
      · obtain rfl : j = 3 := by omega
        go_wp2
        go_ret3
        exact ⟨rfl, rfl⟩
  · simp at hz hl
    go_enter Tryd.func36, Tryd.ntmps36
    go_wp2
    go_rounds 4
    go_loop [7, 8] (fun n i => ∃ j : Nat, j ≤ 7 ∧ i = .int .i64 (j + 1) ∧ n = .int .i64 (gval zs j)) (fun _ i => 9 - (intOf i).toNat)
    case atStart => exact ⟨0, by omega, rfl, by rw [HG.out]⟩
    case round =>
      obtain ⟨j, hj, rfl, rfl⟩ := hrel
      by_cases hlt : j < 7
      · have hcx : w.cell? ⟨b, off + (j + 1), none⟩ = some (.int .u8 (zs.getD (j + 1) 0)) := HC.out _ (by omega)
        obtain ⟨g0, g1⟩ := gval_lt zs HB.out j (by omega)
        obtain ⟨b0, b1⟩ := HB.out (j + 1)
        obtain ⟨y, hy⟩ : ∃ y, zs.getD (j + 1) 0 = y := ⟨_, rfl⟩
        have HY : Hid (gval zs (j + 1) = gval zs j * 256 + y) := by rw [← hy]; rfl
        rw [hy] at hcx b0 b1
        clear hy
        go_wp2
        go_round
        case rel => exact ⟨j + 1, by omega, by go_num, by rw [HY.out]; go_num⟩
        case measure => simp [intOf]; omega
      · obtain rfl : j = 7 := by omega
        go_wp2
        go_ret3
        exact ⟨rfl, rfl⟩

theorem rget_any (a : Option Addr) (len cap : Nat) (zs : List Int) (w : World) (hr : Row w a len cap zs) :
    Calls Tryd.prog 36 #[.slice a len cap] w fun e w' => e = .returned (.tuple #[.int .i64 (getN len zs), .int .i64 (getU len zs), .int .i64 (getE len zs)]) ∧ w' = w := by
  unfold getN getU getE
  rcases hr with rfl | ⟨hp, b, off, rfl, hlc, hm, hc, hb⟩
  · rw [if_pos (.inr rfl), if_pos (.inr rfl), if_pos (.inr rfl)]
    exact rget_empty a cap w
  · obtain ⟨h0, h1⟩ := hb 0
    have hz : zs.getD 0 0 / 64 = (gk zs : Nat) := by unfold gk; omega
    by_cases hl : len < 2 ^ gk zs
    · rw [if_pos (.inl hl), if_pos (.inl hl), if_pos (.inl hl)]
      exact rget_cut b off len cap _ w (by omega) hp (hc 0 hp) (gk zs) hz h0 h1 hl
    · rw [if_neg (by omega), if_neg (by omega), if_neg (by omega)]
      exact rget_ok b off len cap zs w hlc hm hc hb (gk zs) hz (by omega)

set_option maxHeartbeats 1000000 in
theorem rshortest_any (a : Option Addr) (len cap : Nat) (zs : List Int) (w : World) (hr : Row w a len cap zs) :
    Calls Tryd.prog 29 #[.slice a len cap] w fun e w' => e = .returned (.tuple #[.int .i64 (shN len zs), .int .i64 (shU len zs), .int .i64 (shE len zs)]) ∧ w' = w := by
  unfold shN shU shE
  have hg := rget_any a len cap zs w hr
  generalize getN len zs = n at *
  generalize getU len zs = u at *
  generalize getE len zs = g at *
  by_cases h : g = 0
  · subst h
    by_cases h2 : u ≤ lenOf n
    · rw [if_pos ⟨rfl, h2⟩, if_pos ⟨rfl, h2⟩, if_pos rfl, if_pos h2]
      go_enter Tryd.func29, Tryd.ntmps29
      go_wp2_with (first | (go_at_call 36; refine hg.mono ?_; rintro e w' ⟨rfl, rfl⟩) | (go_at_call 37; refine (rlen_any n _).mono ?_; rintro e w' ⟨rfl, rfl⟩))
      go_ret3
      exact ⟨rfl, rfl⟩
    · have h3 : lenOf n < u := by omega
      rw [if_neg (by omega), if_neg (by omega), if_pos rfl, if_neg h2]
      go_enter Tryd.func29, Tryd.ntmps29
      go_wp2_with (first | (go_at_call 36; refine hg.mono ?_; rintro e w' ⟨rfl, rfl⟩) | (go_at_call 37; refine (rlen_any n _).mono ?_; rintro e w' ⟨rfl, rfl⟩))
      go_ret3
      exact ⟨rfl, rfl⟩
  · have h' : (g == 0) = false := by simpa using h
    rw [if_neg (by omega), if_neg (by omega), if_neg h]
    go_enter Tryd.func29, Tryd.ntmps29
    go_wp2_with (first | (go_at_call 36; refine hg.mono ?_; rintro e w' ⟨rfl, rfl⟩) | (go_at_call 37; refine (rlen_any n _).mono ?_; rintro e w' ⟨rfl, rfl⟩))
    go_ret3
    exact ⟨rfl, rfl⟩
end Go.Proofs.YtfccjeepmhgckaaDoor.Fi
