/-
  What the document's Late and Probe answer.
-/
import Derived.Test.YtbomkapnkpjjbaaBk
namespace Go.Proofs.Ytbomkapnkpjjbaa
open Go.RowKit

set_option maxHeartbeats 4000000 in
theorem rlate_any (h : Bool) (l m s v : Int) (w : World) : Calls Try.prog 16 #[.agg #[.bool h, .int .i64 l, .int .i64 m, .int .i64 s, .int .i64 v]] w fun e w' => e = .returned (.int .i64 (lat ⟨h, l, m, s, v⟩)) ∧ Below w.heap.size w w' := by
  obtain ⟨W1, hW1⟩ : ∃ W1, W1 = w.alloc (.cells #[.bool h, .int .i64 l, .int .i64 m, .int .i64 s, .int .i64 v] 23) := ⟨_, rfl⟩
  have b1 : Below w.heap.size w W1 := by rw [hW1]; exact al_below _ _
  have g1 : SB W1 w.heap.size 23 ⟨h, l, m, s, v⟩ := by rw [hW1]; exact heap_new _ _
  have HB : Hid (Below w.heap.size w W1) := b1
  have HS : Hid (SB W1 w.heap.size 23 ⟨h, l, m, s, v⟩) := g1
  obtain ⟨c0, c1, c2, c3, c4⟩ := g1.sc
  clear b1 g1
  cases h
  · have er : lat ⟨false, l, m, s, v⟩ = 18 := by unfold lat; rw [if_neg (by rw [show kn ⟨false, l, m, s, v⟩ = false from rfl]; decide)]
    rw [er]
    clear er
    go_enter Try.func16, Try.ntmps16
    go_upto_region 1 with fail
    rw [← hW1]
    clear hW1
    go_wp2
    go_ret
    exact ⟨rfl, HB.out⟩
  by_cases hk : chk ⟨true, l, m, s, v⟩ = true
  · have hk2 : kn ⟨true, l, m, s, v⟩ = true := by unfold kn; rw [hk]; rfl
    have er : lat ⟨true, l, m, s, v⟩ = max (9 * max l s / 8) 1 := by unfold lat; rw [if_pos hk2]
    obtain ⟨-, hl, -, hs, -, -⟩ := kn_tm hk2
    obtain ⟨q, hq⟩ : ∃ q, q = max l s := ⟨_, rfl⟩
    have qb : 0 ≤ q ∧ q ≤ 1099511627776 := by omega
    rw [er, ← hq]
    have k1 := wrS (x := 9 * q) (by omega) (by omega)
    have k2 : Int.tdiv (9 * q) 8 = 9 * q / 8 := Int.tdiv_eq_ediv_of_nonneg (by omega)
    have k3 := wrS (x := 9 * q / 8) (by omega) (by omega)
    have k4 := hq.symm
    have k5 : max (9 * q / 8) 1 = max 1 (9 * q / 8) := Int.max_comm ..
    rw [k5]
    clear er hl hs hq qb hk2 k5
    go_enter Try.func16, Try.ntmps16
    go_upto_region 1 with fail
    rw [← hW1]
    clear hW1
    have ck := rcheck_any true l m s v W1
    go_wp2_with fail
    refine ck.mono ?_
    rintro e w2 ⟨rfl, b2⟩
    have HB2 : Hid (Below w.heap.size w w2) := HB.out.trans (b2.mono HB.out.size)
    have HS2 : Hid (SB w2 w.heap.size 23 ⟨true, l, m, s, v⟩) := HS.out.kept b2
    clear ck b2 HB HS c0 c1 c2 c3 c4
    obtain ⟨c0, c1, c2, c3, c4⟩ := HS2.out.sc
    go_wp2
    go_ret
    exact ⟨rfl, HB2.out⟩
  · have hk' : chk ⟨true, l, m, s, v⟩ = false := by simpa using hk
    have er : lat ⟨true, l, m, s, v⟩ = 18 := lat_no hk'
    rw [er]
    clear er hk
    go_enter Try.func16, Try.ntmps16
    go_upto_region 1 with fail
    rw [← hW1]
    clear hW1
    have ck := rcheck_any true l m s v W1
    go_wp2_with fail
    refine ck.mono ?_
    rintro e w2 ⟨rfl, b2⟩
    have HB2 : Hid (Below w.heap.size w w2) := HB.out.trans (b2.mono HB.out.size)
    have HS2 : Hid (SB w2 w.heap.size 23 ⟨true, l, m, s, v⟩) := HS.out.kept b2
    clear ck b2 HB HS c0 c1 c2 c3 c4
    obtain ⟨c0, c1, c2, c3, c4⟩ := HS2.out.sc
    go_wp2
    go_ret
    exact ⟨rfl, HB2.out⟩
set_option maxHeartbeats 8000000 in
theorem rprobe_any (h : Bool) (l m s v c : Int) (w : World) : Calls Try.prog 14 #[.agg #[.bool h, .int .i64 l, .int .i64 m, .int .i64 s, .int .i64 v], .int .i64 c] w fun e w' => e = .returned (.int .i64 (prb ⟨h, l, m, s, v⟩ c)) ∧ Below w.heap.size w w' := by
  obtain ⟨W1, hW1⟩ : ∃ W1, W1 = w.alloc (.cells #[.bool h, .int .i64 l, .int .i64 m, .int .i64 s, .int .i64 v] 23) := ⟨_, rfl⟩
  have b1 : Below w.heap.size w W1 := by rw [hW1]; exact al_below _ _
  have g1 : SB W1 w.heap.size 23 ⟨h, l, m, s, v⟩ := by rw [hW1]; exact heap_new _ _
  have HB : Hid (Below w.heap.size w W1) := b1
  have HS : Hid (SB W1 w.heap.size 23 ⟨h, l, m, s, v⟩) := g1
  obtain ⟨c0, c1, c2, c3, c4⟩ := g1.sc
  clear b1 g1
  have hkc : min (max c 0) 16 = ((prbK c : Nat) : Int) := by unfold prbK; omega
  obtain ⟨K, hK⟩ : ∃ K, K = prbK c := ⟨_, rfl⟩
  have HKK : Hid (min (max c 0) 16 = (K : Int)) := by rw [hK]; exact hkc
  cases h
  · obtain ⟨P, hP⟩ : ∃ P, P = prb0 ⟨false, l, m, s, v⟩ := ⟨_, rfl⟩
    obtain ⟨R, hR⟩ : ∃ R, R = prb ⟨false, l, m, s, v⟩ c := ⟨_, rfl⟩
    rw [← hR]
    have HP1 : Hid (1 ≤ P ∧ P ≤ 5497558138881) := by unfold Hid; rw [hP]; exact prb0_bd _
    have HQ0 : Hid (∀ i : Nat, 0 ≤ P * 2 ^ (i + 1)) := fun i => Int.mul_nonneg (by have := HP1.out; omega) (Int.le_of_lt (Int.pow_pos (by decide)))
    have HRR : Hid (min (P * 2 ^ K) 65536 = R) := by unfold Hid; rw [hR, hP, hK]; rfl
    have HPZ : Hid (P * 2 ^ 0 = P) := by unfold Hid; simp
    have hPv : P = 16 := by rw [hP]; unfold prb0; rw [if_neg (by rw [show kn ⟨false, l, m, s, v⟩ = false from rfl]; decide)]
    clear hP hR hK hkc
    go_enter Try.func14, Try.ntmps14
    go_upto_region 1 with fail
    rw [← hW1]
    clear hW1
    go_wp2_with fail
    go_loopw [5, 6] (fun s5 z wr => ∃ i : Nat, i ≤ K ∧ z = .int .i64 i ∧ s5 = .int .i64 (P * 2 ^ i) ∧ Below w.heap.size w wr) (fun _ z _ => 17 - (intOf z).toNat)
    case atStart => exact ⟨0, Nat.zero_le _, rfl, by first | (rw [HPZ.out]; done) | (rw [HPZ.out, hPv]), HB.out⟩
    case round =>
      obtain ⟨i, hi, rfl, rfl, bl⟩ := hrel
      have HB9 : Hid (Below w.heap.size w wr) := bl
      obtain ⟨Q, hQ⟩ : ∃ Q, Q = P * 2 ^ i := ⟨_, rfl⟩
      have hKi := HKK.out
      have hQK : Q ≤ P * 2 ^ K := by rw [hQ]; exact Int.mul_le_mul_of_nonneg_left (two_le hi) (by have := HP1.out; omega)
      have HR9 : Hid (i = K → min Q 65536 = R) := fun e => by rw [hQ, e]; exact HRR.out
      have HR8 : Hid (¬ Q < 65536 → min Q 65536 = R) := fun e => by rw [← HRR.out]; omega
      have HNX : Hid (P * 2 ^ (i + 1) = 2 * Q) := by unfold Hid; rw [hQ, Int.pow_succ]; rw [← Int.mul_assoc, Int.mul_comm]
      rw [← hQ]
      clear bl hQ hQK
      by_cases hc : (i : Int) < c
      · by_cases h16 : i < 16
        · have h16' : (i : Int) < 16 := by omega
          by_cases hq : Q < 65536
          · have hq0 : 0 ≤ Q := by have := HQ0.out i; have := HNX.out; omega
            have y := wrS (x := 2 * Q) (by omega) (by omega)
            have hik : i + 1 ≤ K := by omega
            clear hi hq0
            go_wp2
            go_roundw
            case rel => exact ⟨i + 1, hik, by go_num, by rw [HNX.out], HB9.out⟩
            case measure => simp [intOf]; omega
          · have e := HR8.out hq
            go_wp2
            go_ret
            exact ⟨by first | rfl | rw [e], HB9.out⟩
        · have h16' : ¬ (i : Int) < 16 := by omega
          have e := HR9.out (by omega)
          clear hKi hi
          go_wp2
          go_ret
          exact ⟨by first | rfl | rw [e], HB9.out⟩
      · have e := HR9.out (by omega)
        clear hKi hi
        go_wp2
        go_ret
        exact ⟨by first | rfl | rw [e], HB9.out⟩
  by_cases hk : chk ⟨true, l, m, s, v⟩ = true
  · have hk2 : kn ⟨true, l, m, s, v⟩ = true := by unfold kn; rw [hk]; rfl
    obtain ⟨-, hl, -, hs, hv, -⟩ := kn_tm hk2
    obtain ⟨P, hP⟩ : ∃ P, P = prb0 ⟨true, l, m, s, v⟩ := ⟨_, rfl⟩
    obtain ⟨R, hR⟩ : ∃ R, R = prb ⟨true, l, m, s, v⟩ c := ⟨_, rfl⟩
    rw [← hR]
    have HP1 : Hid (1 ≤ P ∧ P ≤ 5497558138881) := by unfold Hid; rw [hP]; exact prb0_bd _
    have HQ0 : Hid (∀ i : Nat, 0 ≤ P * 2 ^ (i + 1)) := fun i => Int.mul_nonneg (by have := HP1.out; omega) (Int.le_of_lt (Int.pow_pos (by decide)))
    have HRR : Hid (min (P * 2 ^ K) 65536 = R) := by unfold Hid; rw [hR, hP, hK]; rfl
    have HPZ : Hid (P * 2 ^ 0 = P) := by unfold Hid; simp
    have hPv : P = s + max 1 (4 * v) := by rw [hP]; unfold prb0; rw [if_pos hk2]; show s + max (4 * v) 1 = _; rw [Int.max_comm]
    clear hP hR hK hkc
    obtain ⟨r, hr⟩ : ∃ r, r = max 1 (4 * v) := ⟨_, rfl⟩
    rw [← hr] at hPv
    have k1 := wrS (x := 4 * v) (by omega) (by omega)
    have k2 : IntKind.i64.wrap (s + r) = P := by rw [hPv]; exact wrS (by omega) (by omega)
    have k4 := hr.symm
    clear hr hPv hl hs hv hk2
    go_enter Try.func14, Try.ntmps14
    go_upto_region 1 with fail
    rw [← hW1]
    clear hW1
    have ck := rcheck_any true l m s v W1
    go_wp2_with fail
    refine ck.mono ?_
    rintro e w2 ⟨rfl, b2⟩
    have HB2 : Hid (Below w.heap.size w w2) := HB.out.trans (b2.mono HB.out.size)
    have HS2 : Hid (SB w2 w.heap.size 23 ⟨true, l, m, s, v⟩) := HS.out.kept b2
    clear ck b2 HB HS c0 c1 c2 c3 c4
    obtain ⟨c0, c1, c2, c3, c4⟩ := HS2.out.sc
    go_wp2_with fail
    go_loopw [5, 6] (fun s5 z wr => ∃ i : Nat, i ≤ K ∧ z = .int .i64 i ∧ s5 = .int .i64 (P * 2 ^ i) ∧ Below w.heap.size w wr) (fun _ z _ => 17 - (intOf z).toNat)
    case atStart => exact ⟨0, Nat.zero_le _, rfl, by first | (rw [HPZ.out]; done) | (rw [HPZ.out, hPv]), HB2.out⟩
    case round =>
      obtain ⟨i, hi, rfl, rfl, bl⟩ := hrel
      have HB9 : Hid (Below w.heap.size w wr) := bl
      obtain ⟨Q, hQ⟩ : ∃ Q, Q = P * 2 ^ i := ⟨_, rfl⟩
      have hKi := HKK.out
      have hQK : Q ≤ P * 2 ^ K := by rw [hQ]; exact Int.mul_le_mul_of_nonneg_left (two_le hi) (by have := HP1.out; omega)
      have HR9 : Hid (i = K → min Q 65536 = R) := fun e => by rw [hQ, e]; exact HRR.out
      have HR8 : Hid (¬ Q < 65536 → min Q 65536 = R) := fun e => by rw [← HRR.out]; omega
      have HNX : Hid (P * 2 ^ (i + 1) = 2 * Q) := by unfold Hid; rw [hQ, Int.pow_succ]; rw [← Int.mul_assoc, Int.mul_comm]
      rw [← hQ]
      clear bl hQ hQK
      by_cases hc : (i : Int) < c
      · by_cases h16 : i < 16
        · have h16' : (i : Int) < 16 := by omega
          by_cases hq : Q < 65536
          · have hq0 : 0 ≤ Q := by have := HQ0.out i; have := HNX.out; omega
            have y := wrS (x := 2 * Q) (by omega) (by omega)
            have hik : i + 1 ≤ K := by omega
            clear hi hq0
            go_wp2
            go_roundw
            case rel => exact ⟨i + 1, hik, by go_num, by rw [HNX.out], HB9.out⟩
            case measure => simp [intOf]; omega
          · have e := HR8.out hq
            go_wp2
            go_ret
            exact ⟨by first | rfl | rw [e], HB9.out⟩
        · have h16' : ¬ (i : Int) < 16 := by omega
          have e := HR9.out (by omega)
          clear hKi hi
          go_wp2
          go_ret
          exact ⟨by first | rfl | rw [e], HB9.out⟩
      · have e := HR9.out (by omega)
        clear hKi hi
        go_wp2
        go_ret
        exact ⟨by first | rfl | rw [e], HB9.out⟩
  · have hk' : chk ⟨true, l, m, s, v⟩ = false := by simpa using hk
    have hk2 : ¬ kn ⟨true, l, m, s, v⟩ = true := by unfold kn; rw [hk']; simp
    obtain ⟨P, hP⟩ : ∃ P, P = prb0 ⟨true, l, m, s, v⟩ := ⟨_, rfl⟩
    obtain ⟨R, hR⟩ : ∃ R, R = prb ⟨true, l, m, s, v⟩ c := ⟨_, rfl⟩
    rw [← hR]
    have HP1 : Hid (1 ≤ P ∧ P ≤ 5497558138881) := by unfold Hid; rw [hP]; exact prb0_bd _
    have HQ0 : Hid (∀ i : Nat, 0 ≤ P * 2 ^ (i + 1)) := fun i => Int.mul_nonneg (by have := HP1.out; omega) (Int.le_of_lt (Int.pow_pos (by decide)))
    have HRR : Hid (min (P * 2 ^ K) 65536 = R) := by unfold Hid; rw [hR, hP, hK]; rfl
    have HPZ : Hid (P * 2 ^ 0 = P) := by unfold Hid; simp
    have hPv : P = 16 := by rw [hP]; unfold prb0; rw [if_neg hk2]
    clear hP hR hK hkc
    clear hk2 hk
    go_enter Try.func14, Try.ntmps14
    go_upto_region 1 with fail
    rw [← hW1]
    clear hW1
    have ck := rcheck_any true l m s v W1
    go_wp2_with fail
    refine ck.mono ?_
    rintro e w2 ⟨rfl, b2⟩
    have HB2 : Hid (Below w.heap.size w w2) := HB.out.trans (b2.mono HB.out.size)
    have HS2 : Hid (SB w2 w.heap.size 23 ⟨true, l, m, s, v⟩) := HS.out.kept b2
    clear ck b2 HB HS c0 c1 c2 c3 c4
    obtain ⟨c0, c1, c2, c3, c4⟩ := HS2.out.sc
    go_wp2_with fail
    go_loopw [5, 6] (fun s5 z wr => ∃ i : Nat, i ≤ K ∧ z = .int .i64 i ∧ s5 = .int .i64 (P * 2 ^ i) ∧ Below w.heap.size w wr) (fun _ z _ => 17 - (intOf z).toNat)
    case atStart => exact ⟨0, Nat.zero_le _, rfl, by first | (rw [HPZ.out]; done) | (rw [HPZ.out, hPv]), HB2.out⟩
    case round =>
      obtain ⟨i, hi, rfl, rfl, bl⟩ := hrel
      have HB9 : Hid (Below w.heap.size w wr) := bl
      obtain ⟨Q, hQ⟩ : ∃ Q, Q = P * 2 ^ i := ⟨_, rfl⟩
      have hKi := HKK.out
      have hQK : Q ≤ P * 2 ^ K := by rw [hQ]; exact Int.mul_le_mul_of_nonneg_left (two_le hi) (by have := HP1.out; omega)
      have HR9 : Hid (i = K → min Q 65536 = R) := fun e => by rw [hQ, e]; exact HRR.out
      have HR8 : Hid (¬ Q < 65536 → min Q 65536 = R) := fun e => by rw [← HRR.out]; omega
      have HNX : Hid (P * 2 ^ (i + 1) = 2 * Q) := by unfold Hid; rw [hQ, Int.pow_succ]; rw [← Int.mul_assoc, Int.mul_comm]
      rw [← hQ]
      clear bl hQ hQK
      by_cases hc : (i : Int) < c
      · by_cases h16 : i < 16
        · have h16' : (i : Int) < 16 := by omega
          by_cases hq : Q < 65536
          · have hq0 : 0 ≤ Q := by have := HQ0.out i; have := HNX.out; omega
            have y := wrS (x := 2 * Q) (by omega) (by omega)
            have hik : i + 1 ≤ K := by omega
            clear hi hq0
            go_wp2
            go_roundw
            case rel => exact ⟨i + 1, hik, by go_num, by rw [HNX.out], HB9.out⟩
            case measure => simp [intOf]; omega
          · have e := HR8.out hq
            go_wp2
            go_ret
            exact ⟨by first | rfl | rw [e], HB9.out⟩
        · have h16' : ¬ (i : Int) < 16 := by omega
          have e := HR9.out (by omega)
          clear hKi hi
          go_wp2
          go_ret
          exact ⟨by first | rfl | rw [e], HB9.out⟩
      · have e := HR9.out (by omega)
        clear hKi hi
        go_wp2
        go_ret
        exact ⟨by first | rfl | rw [e], HB9.out⟩
end Go.Proofs.Ytbomkapnkpjjbaa
