/-
  What the document's Halves, Sum and Pack answer; nothing is changed.
-/
import Derived.Test.YtlhmpcmlpfffoaaDoorRoSums
namespace Go.Proofs.YtlhmpcmlpfffoaaDoor.Ro
open Go.RowKit
set_option maxRecDepth 100000

theorem tmod_nn (a : Int) (h : 0 ≤ a) : Int.tmod a 65536 = a % 65536 := Int.tmod_eq_emod_of_nonneg h

set_option maxHeartbeats 1000000 in
theorem halves_any (v : Value) (xs : List Int) (w : World) (sl : Sl w v xs) :
    Calls Tryd.prog 46 #[v] w fun e w' => e = .returned (.tuple #[.int .i64 (pa xs), .int .i64 (pb xs)]) ∧ w' = w := by
  have hbd := sl.bytes
  obtain ⟨a, cap, rfl, h1, h2, h3, h4⟩ := sl
  have hL : xs.length ≤ 9223372036854775807 := by unfold maxLen at h2; omega
  obtain ⟨L, hX⟩ : ∃ L, L = xs.length := ⟨_, rfl⟩
  have HN : Hid (∀ j, j < L → hx xs (j + 1) = (hx xs j + xs.getD j 0) % 65536 ∧ hy L xs (j + 1) = (hy L xs j + (((L - j : Nat) : Int) % 65536) * xs.getD j 0) % 65536) := fun j hj =>
    ⟨hx_succ xs j (by omega), hy_succ L xs j (by omega) (by omega)⟩
  have HE : Hid (pa xs = hx xs L ∧ pb xs = hy L xs L) := ⟨(hx_all xs L hX).symm, (hy_all xs L hX).symm⟩
  have HB : Hid (∀ i, 0 ≤ xs.getD i 0 ∧ xs.getD i 0 < 256) := hbd
  rw [← hX] at hL h4 ⊢
  have H4 : Hid (Row w a L cap xs) := h4
  clear hbd h4 h3 h2 h1 hX
  go_enter Tryd.func46, Tryd.ntmps46
  go_wp2
  go_loop [4, 5, 6] (fun x y i => ∃ j : Nat, j ≤ L ∧ i = .int .i64 j ∧ x = .int .i64 (hx xs j) ∧ y = .int .i64 (hy L xs j)) (fun _ _ i => L - (intOf i).toNat)
  case atStart => exact ⟨0, by omega, rfl, rfl, rfl⟩
  case round =>
    obtain ⟨j, hj, rfl, rfl, rfl⟩ := hrel
    by_cases hlt : j < L
    · rcases H4.out with h0 | ⟨hp, b, off, rfl, hlc, hm, hcell, hz⟩
      · omega
      · have hcj := hcell j hlt
        have hzj := HB.out j
        have hn := HN.out j hlt
        have hr1 := hx_range xs j
        have hr2 := hy_range L xs j
        have HF1 : Hid (hx xs (j + 1) = (hx xs j + xs.getD j 0) % 65536) := hn.1
        have HF2 : Hid (hy L xs (j + 1) = (hy L xs j + (((L - j : Nat) : Int) % 65536) * xs.getD j 0) % 65536) := hn.2
        clear hn hcell hz
        generalize xs.getD j 0 = z at *
        generalize hx xs j = x at *
        generalize hy L xs j = y at *
        have hm0 : (0 : Int) ≤ ((L - j : Nat) : Int) % 65536 := by omega
        have hm1 : ((L - j : Nat) : Int) % 65536 < 65536 := by omega
        have t1 := tmod_nn (x + z) (by omega)
        have t2 := tmod_nn ((L : Int) - j) (by omega)
        rw [show (L : Int) - j = ((L - j : Nat) : Int) by omega] at t2
        have hsub : IntKind.i64.wrap ((L : Int) - j) = ((L - j : Nat) : Int) := by rw [IntKind.wrap_i64]; omega
        generalize hd : ((L - j : Nat) : Int) = d at *
        generalize d % 65536 = m at *
        have hp0 := Int.mul_nonneg hm0 hzj.1
        have hp1 : m * z ≤ 65536 * 256 := Int.mul_le_mul (by omega) (by omega) hzj.1 (by decide)
        have t3 := tmod_nn (y + m * z) (by omega)
        have hw1 : wrap64 (m * z) = m * z := by unfold wrap64; omega
        have hw2 : wrap64 (y + m * z) = y + m * z := by unfold wrap64; omega
        have HW : Hid (Value.int .i64 ((wrap64 (y + wrap64 (m * z))).tmod 65536) = .int .i64 ((y + m * z) % 65536)) := by unfold Hid; rw [hw1, hw2, t3]
        clear hd hw1 hw2 t3 hp0 hp1
        go_wp2
        go_round
        case rel => exact ⟨j + 1, by omega, by go_num, by rw [HF1.out], by rw [HF2.out]; exact HW.out⟩
        case measure => simp [intOf]; omega
    · obtain rfl : j = L := by omega
      rw [← HE.out.1, ← HE.out.2]
      go_wp2
      go_ret2
      exact ⟨rfl, rfl⟩

set_option maxHeartbeats 1000000 in
theorem rsum_any (v : Value) (xs : List Int) (w : World) (sl : Sl w v xs) :
    Calls Tryd.prog 25 #[v] w fun e w' => e = .returned (.int .u32 (rs xs)) ∧ w' = w := by
  have c1 := halves_any v xs w sl
  have h1 := pa_range xs
  have h2 := pb_range xs
  unfold rs
  generalize pa xs = A at *
  generalize pb xs = B at *
  clear sl
  go_enter Tryd.func25, Tryd.ntmps25
  go_wp2_with fail
  refine c1.mono ?_
  rintro e w1 ⟨rfl, rfl⟩
  clear c1
  go_wp2_with fail
  go_ret
  exact ⟨by go_num, rfl⟩

theorem tmod_neg (x : Int) (h : Int.tmod x 65536 < 0) : Int.tmod x 65536 + 65536 = x % 65536 := by
  have := Int.tmod_eq_emod (a := x) (b := 65536)
  split at this <;> omega
theorem tmod_pos (x : Int) (h : ¬ Int.tmod x 65536 < 0) : Int.tmod x 65536 = x % 65536 := by
  have := Int.tmod_eq_emod (a := x) (b := 65536)
  split at this <;> omega
theorem tmod_b (x : Int) : -65536 < Int.tmod x 65536 ∧ Int.tmod x 65536 < 65536 := by
  have := Int.tmod_eq_emod (a := x) (b := 65536)
  split at this <;> omega

end Go.Proofs.YtlhmpcmlpfffoaaDoor.Ro
