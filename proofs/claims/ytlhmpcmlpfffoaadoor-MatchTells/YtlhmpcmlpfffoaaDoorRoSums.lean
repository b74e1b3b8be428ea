/-
  What Pair, Pack and Sum of roll answer, and the document's Halves, Sum and Pack; nothing is changed.
-/
import Derived.Test.YtlhmpcmlpfffoaaDoorRoNum
namespace Go.Proofs.YtlhmpcmlpfffoaaDoor.Ro
open Go.RowKit
set_option maxRecDepth 100000

set_option maxHeartbeats 1000000 in
theorem pair_any (v : Value) (xs : List Int) (w : World) (sl : Sl w v xs) :
    Calls Tryd.prog 50 #[v] w fun e w' => e = .returned (.complex .f64 (fl (pa xs)) (fl (pb xs))) ∧ w' = w := by
  have hbd := sl.bytes
  obtain ⟨a, cap, rfl, h1, h2, h3, h4⟩ := sl
  have hL : xs.length ≤ 9223372036854775807 := by unfold maxLen at h2; omega
  have HN : Hid (∀ j, j < xs.length → pa (xs.take (j + 1)) = (pa (xs.take j) + xs.getD j 0) % 65536 ∧ pb (xs.take (j + 1)) = (pb (xs.take j) + pa (xs.take j) + xs.getD j 0) % 65536) := fun j hj => by
    rw [take_next xs j hj, pa_snoc, pb_snoc]; exact ⟨rfl, rfl⟩
  have HE : Hid (∀ j, j = xs.length → xs.take j = xs) := fun j hj => by rw [hj, List.take_length]
  have HB : Hid (∀ i, 0 ≤ xs.getD i 0 ∧ xs.getD i 0 < 256) := hbd
  have H4 : Hid (Row w a xs.length cap xs) := h4
  clear hbd h4 h3 h2
  generalize hX : xs.length = L at *
  clear hX
  go_enter Tryd.func50, Tryd.ntmps50
  go_wp2
  go_loop [3, 8] (fun r i => ∃ j : Nat, j ≤ L ∧ i = .int .i64 j ∧ r = .complex .f64 (fl (pa (xs.take j))) (fl (pb (xs.take j)))) (fun _ i => L - (intOf i).toNat)
  case atStart => exact ⟨0, by omega, rfl, by rw [List.take_zero, pa_nil, pb_nil, fl_zero]⟩
  case round =>
    obtain ⟨j, hj, rfl, rfl⟩ := hrel
    by_cases hlt : j < L
    · rcases H4.out with h0 | ⟨hp, b, off, rfl, hlc, hm, hcell, hz⟩
      · omega
      · have hcj := hcell j hlt
        have c1 := with_any (pa (xs.take j)) (pb (xs.take j)) (xs.getD j 0) w (pa_range _) (pb_range _) (HB.out j)
        rw [← (HN.out j hlt).1, ← (HN.out j hlt).2] at c1
        obtain ⟨A, hA⟩ : ∃ A, A = fl (pa (xs.take j)) := ⟨_, rfl⟩
        obtain ⟨B, hB⟩ : ∃ B, B = fl (pb (xs.take j)) := ⟨_, rfl⟩
        obtain ⟨A', hA'⟩ : ∃ A', A' = fl (pa (xs.take (j + 1))) := ⟨_, rfl⟩
        obtain ⟨B', hB'⟩ : ∃ B', B' = fl (pb (xs.take (j + 1))) := ⟨_, rfl⟩
        rw [← hA, ← hB, ← hA', ← hB'] at c1
        rw [← hA, ← hB]
        have HA : Hid (A' = fl (pa (xs.take (j + 1)))) := hA'
        have HB' : Hid (B' = fl (pb (xs.take (j + 1)))) := hB'
        clear hcell hz hA hB hA' hB'
        generalize xs.getD j 0 = z at *
        go_wp2_with fail
        refine c1.mono ?_
        rintro e w1 ⟨rfl, e1⟩
        subst e1
        clear c1
        go_wp2
        go_round
        case rel => exact ⟨j + 1, by omega, by go_num, by rw [HA.out, HB'.out]⟩
        case measure => simp [intOf]; omega
    · obtain rfl : j = L := by omega
      have hE := HE.out j rfl
      rw [hE]
      clear hE
      go_wp2
      go_ret
      exact ⟨rfl, rfl⟩

theorem cmp_lt {x y : Int} (h : x < y) : compare x y = .lt := by simp [compare, compareOfLessAndEq, h]
theorem cmp_gt {x y : Int} (h : y < x) : compare x y = .gt := by simp [compare, compareOfLessAndEq, show ¬ x < y by omega, show ¬ x = y by omega]
theorem cmp_eq (x : Int) : compare x x = .eq := by simp [compare, compareOfLessAndEq]

theorem lo_order (x : Int) (o : Ordering) (hx : x.natAbs < 2 ^ 53) (h : compare x (-1125899906842624) = o) : FloatKind.f64.format.order (fl x) 14055734437023318016 = some o := by
  rw [fl_lo, order_fl x _ hx (by decide), h]
theorem hi_order (x : Int) (o : Ordering) (hx : x.natAbs < 2 ^ 53) (h : compare x 1125899906842624 = o) : FloatKind.f64.format.order (fl x) 4832362400168542208 = some o := by
  rw [fl_hi, order_fl x _ hx (by decide), h]

set_option maxHeartbeats 1000000 in
theorem whole_any (x : Int) (w : World) (hx : x.natAbs < 2 ^ 53) :
    Calls Tryd.prog 72 #[.float .f64 (fl x)] w fun e w' => e = .returned (.bool (decide (-1125899906842624 ≤ x ∧ x ≤ 1125899906842624))) ∧ w' = w := by
  have hc := cv_float x w hx
  have ee : floatOfInt .f64 x = fl x := rfl
  have hself : FloatKind.f64.format.order (fl x) (fl x) = some .eq := by rw [order_fl x x hx hx, cmp_eq]
  by_cases h1 : x < -1125899906842624
  · have l1 := lo_order x _ hx (cmp_lt h1)
    rw [decide_eq_false (by omega)]
    clear hx h1
    go_enter Tryd.func72, Tryd.ntmps72
    go_wp2
    go_ret
    exact ⟨rfl, rfl⟩
  · by_cases h2 : 1125899906842624 < x
    · have l1 := lo_order x _ hx (cmp_gt (show -1125899906842624 < x by omega))
      have l2 := hi_order x _ hx (cmp_gt h2)
      rw [decide_eq_false (by omega)]
      clear hx h1 h2
      go_enter Tryd.func72, Tryd.ntmps72
      go_wp2
      go_ret
      exact ⟨rfl, rfl⟩
    · rw [decide_eq_true (by omega)]
      obtain ⟨o1, l1, k1⟩ : ∃ o1, FloatKind.f64.format.order (fl x) 14055734437023318016 = some o1 ∧ (o1 = .gt ∨ o1 = .eq) := by
        by_cases e : x = -1125899906842624
        · exact ⟨_, lo_order x _ hx (by rw [e]; exact cmp_eq _), .inr rfl⟩
        · exact ⟨_, lo_order x _ hx (cmp_gt (by omega)), .inl rfl⟩
      obtain ⟨o2, l2, k2⟩ : ∃ o2, FloatKind.f64.format.order (fl x) 4832362400168542208 = some o2 ∧ (o2 = .lt ∨ o2 = .eq) := by
        by_cases e : x = 1125899906842624
        · exact ⟨_, hi_order x _ hx (by rw [e]; exact cmp_eq _), .inr rfl⟩
        · exact ⟨_, hi_order x _ hx (cmp_lt (by omega)), .inl rfl⟩
      clear hx h1 h2
      rcases k1 with rfl | rfl <;> rcases k2 with rfl | rfl
      all_goals
        go_enter Tryd.func72, Tryd.ntmps72
        go_wp2
        go_ret
        exact ⟨rfl, rfl⟩

set_option maxHeartbeats 1000000 in
theorem whole_half (w : World) :
    Calls Tryd.prog 72 #[.float .f64 4602678819172646912] w fun e w' => e = .returned (.bool false) ∧ w' = w := by
  have hc := run_convert_float_int (P := Tryd.prog) w 115 2 .f64 .i64 4602678819172646912 0 (by kernel_rfl) Tryd.underlying2 (by decide)
  have e0 : floatOfInt .f64 0 = 0 := by decide
  have l1 : FloatKind.f64.format.order 4602678819172646912 14055734437023318016 = some .gt := by decide
  have l2 : FloatKind.f64.format.order 4602678819172646912 4832362400168542208 = some .lt := by decide
  have l3 : FloatKind.f64.format.order 4602678819172646912 0 = some .gt := by decide
  go_enter Tryd.func72, Tryd.ntmps72
  go_wp2
  go_ret
  exact ⟨rfl, rfl⟩

/-- What Pack answers. -/
def pk (x y : Int) : Int := if (-1125899906842624 ≤ x ∧ x ≤ 1125899906842624) ∧ (-1125899906842624 ≤ y ∧ y ≤ 1125899906842624) then y % 65536 * 65536 + x % 65536 else 0

set_option maxHeartbeats 1000000 in
theorem pack_any (x y : Int) (w : World) (hx : x.natAbs < 2 ^ 53) (hy : y.natAbs < 2 ^ 53) :
    Calls Tryd.prog 64 #[.complex .f64 (fl x) (fl y)] w fun e w' => e = .returned (.int .u32 (pk x y)) ∧ w' = w := by
  have c1 := whole_any x w hx
  have c2 := whole_any y w hy
  have r1 := rem_any x w hx
  have r2 := rem_any y w hy
  unfold pk
  have hX0 : 0 ≤ x % 65536 := by omega
  have hX1 : x % 65536 < 65536 := by omega
  have hY0 : 0 ≤ y % 65536 := by omega
  have hY1 : y % 65536 < 65536 := by omega
  generalize x % 65536 = X at *
  generalize y % 65536 = Y at *
  by_cases h1 : -1125899906842624 ≤ x ∧ x ≤ 1125899906842624
  · rw [decide_eq_true h1] at c1
    by_cases h2 : -1125899906842624 ≤ y ∧ y ≤ 1125899906842624
    · rw [decide_eq_true h2] at c2
      rw [if_pos ⟨h1, h2⟩]
      clear h1 h2 hx hy
      generalize fl x = fx at *
      generalize fl y = fy at *
      go_enter Tryd.func64, Tryd.ntmps64
      go_wp2_with fail
      refine c1.mono ?_
      rintro e w1 ⟨rfl, rfl⟩
      clear c1
      go_wp2_with fail
      refine c2.mono ?_
      rintro e w1 ⟨rfl, rfl⟩
      clear c2
      go_wp2_with fail
      refine r2.mono ?_
      rintro e w1 ⟨rfl, rfl⟩
      clear r2
      go_wp2_with fail
      refine r1.mono ?_
      rintro e w1 ⟨rfl, rfl⟩
      clear r1
      go_wp2_with fail
      go_ret
      exact ⟨by go_num, rfl⟩
    · rw [decide_eq_false h2] at c2
      rw [if_neg (fun h => h2 h.2)]
      clear h1 h2 hx hy r1 r2 hX0 hX1 hY0 hY1
      generalize fl x = fx at *
      generalize fl y = fy at *
      go_enter Tryd.func64, Tryd.ntmps64
      go_wp2_with fail
      refine c1.mono ?_
      rintro e w1 ⟨rfl, rfl⟩
      clear c1
      go_wp2_with fail
      refine c2.mono ?_
      rintro e w1 ⟨rfl, rfl⟩
      clear c2
      go_wp2_with fail
      go_ret
      exact ⟨rfl, rfl⟩
  · rw [decide_eq_false h1] at c1
    rw [if_neg (fun h => h1 h.1)]
    clear h1 hx hy r1 r2 c2 hX0 hX1 hY0 hY1
    generalize fl x = fx at *
    generalize fl y = fy at *
    go_enter Tryd.func64, Tryd.ntmps64
    go_wp2_with fail
    refine c1.mono ?_
    rintro e w1 ⟨rfl, rfl⟩
    clear c1
    go_wp2_with fail
    go_ret
    exact ⟨rfl, rfl⟩

set_option maxHeartbeats 1000000 in
theorem pack_half (u : Nat) (w : World) :
    Calls Tryd.prog 64 #[.complex .f64 4602678819172646912 u] w fun e w' => e = .returned (.int .u32 0) ∧ w' = w := by
  have c1 := whole_half w
  go_enter Tryd.func64, Tryd.ntmps64
  go_wp2_with fail
  refine c1.mono ?_
  rintro e w1 ⟨rfl, rfl⟩
  clear c1
  go_wp2_with fail
  go_ret
  exact ⟨rfl, rfl⟩

theorem pk_pair (xs : List Int) : pk (pa xs) (pb xs) = rs xs := by
  have h1 := pa_range xs
  have h2 := pb_range xs
  unfold pk rs
  rw [if_pos (by omega)]
  omega

theorem packp_any (xs : List Int) (w : World) : Calls Tryd.prog 64 #[.complex .f64 (fl (pa xs)) (fl (pb xs))] w fun e w' => e = .returned (.int .u32 (rs xs)) ∧ w' = w := by
  have h1 := pa_range xs
  have h2 := pb_range xs
  have := pack_any (pa xs) (pb xs) w (by omega) (by omega)
  rwa [pk_pair] at this

set_option maxHeartbeats 1000000 in
theorem sum_any (v : Value) (xs : List Int) (w : World) (sl : Sl w v xs) :
    Calls Tryd.prog 61 #[v] w fun e w' => e = .returned (.int .u32 (rs xs)) ∧ w' = w := by
  have c1 := pair_any v xs w sl
  have c2 := packp_any xs w
  generalize fl (pa xs) = A at *
  generalize fl (pb xs) = B at *
  generalize rs xs = r at *
  clear sl
  go_enter Tryd.func61, Tryd.ntmps61
  go_wp2_with fail
  refine c1.mono ?_
  rintro e w1 ⟨rfl, rfl⟩
  clear c1
  go_wp2_with fail
  refine c2.mono ?_
  rintro e w1 ⟨rfl, rfl⟩
  clear c2
  go_wp2_with fail
  go_ret
  exact ⟨rfl, rfl⟩

end Go.Proofs.YtlhmpcmlpfffoaaDoor.Ro
