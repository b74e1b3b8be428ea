/-
  What roll's inner functions answer: remainder, whole, reduced, counted, with, without; Pair, Pack and Sum of bytes; nothing is changed.
-/
import Derived.Test.YtlhmpcmlpfffoaaDoorBas
import Derived.Test.YtlhmpcmlpfffoaaDoorRoLst
namespace Go.Proofs.YtlhmpcmlpfffoaaDoor.Ro
open Go.RowKit
set_option maxRecDepth 100000

theorem cv_float (x : Int) (w : World) (hx : x.natAbs < 2 ^ 53) : (convert 115 2 (.float .f64 (fl x))).run Tryd.prog w = .ok (.int .i64 x) w :=
  run_convert_float_int w 115 2 .f64 .i64 (fl x) x (by kernel_rfl) Tryd.underlying2 (int_fl x hx)

set_option maxHeartbeats 1000000 in
theorem rem_any (x : Int) (w : World) (hx : x.natAbs < 2 ^ 53) :
    Calls Tryd.prog 73 #[.float .f64 (fl x)] w fun e w' => e = .returned (.int .i64 (x % 65536)) ∧ w' = w := by
  have hc := cv_float x w hx
  have ha := i64_and65535 x
  clear hx
  go_enter Tryd.func73, Tryd.ntmps73
  go_wp2
  go_ret
  exact ⟨rfl, rfl⟩

set_option maxHeartbeats 1000000 in
theorem reduced_any (x y : Int) (w : World) (hx : x.natAbs < 2 ^ 53) (hy : y.natAbs < 2 ^ 53) :
    Calls Tryd.prog 70 #[.complex .f64 (fl x) (fl y)] w fun e w' => e = .returned (.complex .f64 (fl (x % 65536)) (fl (y % 65536))) ∧ w' = w := by
  have c1 := rem_any x w hx
  have c2 := rem_any y w hy
  clear hx hy
  generalize hX : x % 65536 = X at *
  generalize hY : y % 65536 = Y at *
  clear hX hY
  have e1 : floatOfInt .f64 X = fl X := rfl
  have e2 : floatOfInt .f64 Y = fl Y := rfl
  go_enter Tryd.func70, Tryd.ntmps70
  go_wp2_with fail
  refine c1.mono ?_
  rintro e w1 ⟨rfl, rfl⟩
  clear c1
  go_wp2_with fail
  refine c2.mono ?_
  rintro e w1 ⟨rfl, rfl⟩
  clear c2
  go_wp2_with fail
  go_ret
  exact ⟨rfl, rfl⟩

set_option maxHeartbeats 1000000 in
theorem counted_any (c n : Int) (w : World) (hc : 0 ≤ c) (hc2 : c < 256) (hn : 0 ≤ n) (hn2 : n ≤ 1099511627776) :
    Calls Tryd.prog 71 #[.int .u8 c, .int .i64 n] w fun e w' => e = .returned (.complex .f64 (fl c) (fl (n * c))) ∧ w' = w := by
  have hm0 := Int.mul_nonneg hn hc
  have hm1 : n * c ≤ 1099511627776 * 256 := Int.mul_le_mul hn2 (by omega) hc (by decide)
  have hm := run_float_arith (P := Tryd.prog) w .mul 115 .f64 (fl n) (fl c) (fl (n * c)) (mul_fl n c (by omega) (by omega) hn hc (by omega))
  have e1 : floatOfInt .f64 c = fl c := rfl
  have e2 : floatOfInt .f64 n = fl n := rfl
  clear hm0 hm1
  go_enter Tryd.func71, Tryd.ntmps71
  go_wp2
  go_ret
  exact ⟨rfl, rfl⟩

set_option maxHeartbeats 1000000 in
theorem with_any (a b c : Int) (w : World) (ha : 0 ≤ a ∧ a < 65536) (hb : 0 ≤ b ∧ b < 65536) (hc : 0 ≤ c ∧ c < 256) :
    Calls Tryd.prog 63 #[.complex .f64 (fl a) (fl b), .int .u8 c] w fun e w' => e = .returned (.complex .f64 (fl ((a + c) % 65536)) (fl ((b + a + c) % 65536))) ∧ w' = w := by
  have c1 := counted_any c 1 w hc.1 hc.2 (by decide) (by decide)
  rw [Int.one_mul] at c1
  have s1 := run_complex_sum (P := Tryd.prog) w .add (.inl rfl) 89 .f64 (fl a) (fl b) 0 (fl a) (fl a) (fl (b + a)) (by
    unfold cSumBits
    have h1 := add_fl a 0 (by omega) (by decide) (by omega)
    rw [fl_zero, Int.add_zero] at h1
    rw [h1, add_fl b a (by omega) (by omega) (by omega)]; rfl)
  have s2 := run_complex_sum (P := Tryd.prog) w .add (.inl rfl) 89 .f64 (fl a) (fl (b + a)) (fl c) (fl c) (fl (a + c)) (fl (b + a + c)) (by
    unfold cSumBits
    rw [add_fl a c (by omega) (by omega) (by omega), add_fl (b + a) c (by omega) (by omega) (by omega)]; rfl)
  have c2 := reduced_any (a + c) (b + a + c) w (by omega) (by omega)
  generalize (a + c) % 65536 = A at *
  generalize (b + a + c) % 65536 = B at *
  generalize fl (a + c) = u at *
  generalize fl (b + a + c) = v at *
  generalize fl (b + a) = x at *
  clear ha hb hc
  go_enter Tryd.func63, Tryd.ntmps63
  go_wp2_with fail
  refine c1.mono ?_
  rintro e w1 ⟨rfl, rfl⟩
  clear c1
  go_wp2_with fail
  refine c2.mono ?_
  rintro e w1 ⟨rfl, rfl⟩
  clear c2
  go_wp2_with fail
  go_ret
  exact ⟨rfl, rfl⟩

set_option maxHeartbeats 1000000 in
theorem without_any (a b c n : Int) (w : World) (ha : 0 ≤ a ∧ a < 65536) (hb : 0 ≤ b ∧ b < 65536) (hc : 0 ≤ c ∧ c < 256) (hn : 0 ≤ n) (hn2 : n ≤ 1099511627776) :
    Calls Tryd.prog 66 #[.complex .f64 (fl a) (fl b), .int .u8 c, .int .i64 n] w fun e w' => e = .returned (.complex .f64 (fl ((a - c) % 65536)) (fl ((b - n * c) % 65536))) ∧ w' = w := by
  have hm0 := Int.mul_nonneg hn hc.1
  have hm1 : n * c ≤ 1099511627776 * 256 := Int.mul_le_mul hn2 (by omega) hc.1 (by decide)
  have c1 := counted_any c n w hc.1 hc.2 hn hn2
  have s2 := run_complex_sum (P := Tryd.prog) w .sub (.inr rfl) 89 .f64 (fl a) (fl b) (fl c) (fl (n * c)) (fl (a - c)) (fl (b - n * c)) (by
    unfold cSumBits
    rw [sub_fl a c (by omega) (by omega) (by omega), sub_fl b (n * c) (by omega) (by omega) (by omega)]; rfl)
  have c2 := reduced_any (a - c) (b - n * c) w (by omega) (by omega)
  generalize (a - c) % 65536 = A at *
  generalize (b - n * c) % 65536 = B at *
  generalize fl (a - c) = u at *
  generalize fl (b - n * c) = v at *
  generalize fl (n * c) = x at *
  clear ha hb hc hn hn2 hm0 hm1
  go_enter Tryd.func66, Tryd.ntmps66
  go_wp2_with fail
  refine c1.mono ?_
  rintro e w1 ⟨rfl, rfl⟩
  clear c1
  go_wp2_with fail
  refine c2.mono ?_
  rintro e w1 ⟨rfl, rfl⟩
  clear c2
  go_wp2_with fail
  go_ret
  exact ⟨rfl, rfl⟩

end Go.Proofs.YtlhmpcmlpfffoaaDoor.Ro
