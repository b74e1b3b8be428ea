/-
  What Late and Probe answer.
-/
import Derived.Test.YtoocpdjemnbhiaaRf
namespace Go.Proofs.Ytoocpdjemnbhiaa
open Go.RowKit

def lat (x : Sta) : Int := if kn x = true then max (9 * max x.l x.s / 8) 1 else 18
theorem late_any (h : Bool) (l m s v : Int) (w : World) : Calls Try.prog 13 #[.agg #[.bool h, .int .i64 l, .int .i64 m, .int .i64 s, .int .i64 v]] w fun e w' => e = .returned (.int .i64 (lat ⟨h, l, m, s, v⟩)) ∧ Below w.heap.size w w' := by
  obtain ⟨W1, hW1⟩ : ∃ W1, W1 = w.alloc (.cells #[.bool h, .int .i64 l, .int .i64 m, .int .i64 s, .int .i64 v] 24) := ⟨_, rfl⟩
  have b1 : Below w.heap.size w W1 := by rw [hW1]; exact al_below _ _
  have g1 : SB W1 w.heap.size 24 ⟨h, l, m, s, v⟩ := by rw [hW1]; exact heap_new _ _
  have HB : Hid (Below w.heap.size w W1) := b1
  have HS : Hid (SB W1 w.heap.size 24 ⟨h, l, m, s, v⟩) := g1
  have ck := isKnown_any h l m s v W1
  clear b1 g1
  by_cases hk : kn ⟨h, l, m, s, v⟩ = true
  · have er : lat ⟨h, l, m, s, v⟩ = max (9 * max l s / 8) 1 := by unfold lat; rw [if_pos hk]
    obtain ⟨-, hl, -, hs, -, -⟩ := kn_tm hk
    obtain ⟨q, hq⟩ : ∃ q, q = max l s := ⟨_, rfl⟩
    have qb : 0 ≤ q ∧ q ≤ 1099511627776 := by omega
    rw [er, ← hq]
    have k1 := wrS (x := 9 * q) (by omega) (by omega)
    have k2 : Int.tdiv (9 * q) 8 = 9 * q / 8 := Int.tdiv_eq_ediv_of_nonneg (by omega)
    have k3 := wrS (x := 9 * q / 8) (by omega) (by omega)
    have k4 := hq.symm
    clear er hl hs hq qb
    go_enter Try.func13, Try.ntmps13
    go_upto_region 1 with fail
    rw [← hW1]
    clear hW1
    go_wp2_with (refine wpList_load_row rfl 24 _ rfl w.heap.size rfl 24 #[.bool h, .int .i64 l, .int .i64 m, .int .i64 s, .int .i64 v] (0, 0) _ HS.out Try.underlying24 rfl infoS ?_)
    refine ck.mono ?_
    rintro e w2 ⟨rfl, b2⟩
    have HB2 : Hid (Below w.heap.size w w2) := HB.out.trans (b2.mono HB.out.size)
    have HS2 : Hid (SB w2 w.heap.size 24 ⟨h, l, m, s, v⟩) := HS.out.kept b2
    obtain ⟨c0, c1, c2, c3, c4⟩ := HS2.out.sc
    clear ck b2 HB HS
    go_wp2
    go_ret
    exact ⟨rfl, HB2.out⟩
  · have er : lat ⟨h, l, m, s, v⟩ = 18 := by unfold lat; rw [if_neg hk]
    have hk' : kn ⟨h, l, m, s, v⟩ = false := by simpa using hk
    rw [er]
    clear er hk
    go_enter Try.func13, Try.ntmps13
    go_upto_region 1 with fail
    rw [← hW1]
    clear hW1
    go_wp2_with (refine wpList_load_row rfl 24 _ rfl w.heap.size rfl 24 #[.bool h, .int .i64 l, .int .i64 m, .int .i64 s, .int .i64 v] (0, 0) _ HS.out Try.underlying24 rfl infoS ?_)
    refine ck.mono ?_
    rintro e w2 ⟨rfl, b2⟩
    have HB2 : Hid (Below w.heap.size w w2) := HB.out.trans (b2.mono HB.out.size)
    have HS2 : Hid (SB w2 w.heap.size 24 ⟨h, l, m, s, v⟩) := HS.out.kept b2
    obtain ⟨c0, c1, c2, c3, c4⟩ := HS2.out.sc
    clear ck b2 HB HS
    go_wp2
    go_ret
    exact ⟨rfl, HB2.out⟩
/-- How long is waited ahead of the first probe. -/
def prb0 (x : Sta) : Int := if kn x = true then max (x.s + 4 * x.v) 1 else 16
def prbK (c : Int) : Nat := (min (max c 0) 16).toNat
def prb (x : Sta) (c : Int) : Int := min (prb0 x * 2 ^ prbK c) 65536
theorem prb0_bd (x : Sta) : 1 ≤ prb0 x ∧ prb0 x ≤ 5497558138881 := by
  unfold prb0
  split
  · rename_i hk
    obtain ⟨h, l, m, s, v⟩ := x
    obtain ⟨-, -, -, hs, hv, -⟩ := kn_tm hk
    simp only
    omega
  · omega
theorem prbK_le (c : Int) : prbK c ≤ 16 := by unfold prbK; omega
theorem two_le {a b : Nat} (h : a ≤ b) : (2 : Int) ^ a ≤ 2 ^ b := by exact_mod_cast Nat.pow_le_pow_right (by decide) h
theorem prb_mul (x : Sta) (k : Nat) (hk : k ≤ 16) : 0 ≤ prb0 x * 2 ^ k ∧ prb0 x * 2 ^ k ≤ 360287970189705216 := by
  obtain ⟨h0, h1⟩ := prb0_bd x
  have h2 : (0 : Int) < 2 ^ k := Int.pow_pos (by decide)
  have h3 := two_le hk
  constructor
  · exact Int.mul_nonneg (by omega) (Int.le_of_lt h2)
  · exact Int.le_trans (Int.mul_le_mul h1 h3 (Int.le_of_lt h2) (by omega)) (by decide)
theorem probe_any (h : Bool) (l m s v c : Int) (w : World) : Calls Try.prog 12 #[.agg #[.bool h, .int .i64 l, .int .i64 m, .int .i64 s, .int .i64 v], .int .i64 c] w fun e w' => e = .returned (.int .i64 (prb ⟨h, l, m, s, v⟩ c)) ∧ Below w.heap.size w w' := by
  obtain ⟨W1, hW1⟩ : ∃ W1, W1 = w.alloc (.cells #[.bool h, .int .i64 l, .int .i64 m, .int .i64 s, .int .i64 v] 24) := ⟨_, rfl⟩
  have b1 : Below w.heap.size w W1 := by rw [hW1]; exact al_below _ _
  have g1 : SB W1 w.heap.size 24 ⟨h, l, m, s, v⟩ := by rw [hW1]; exact heap_new _ _
  have HB : Hid (Below w.heap.size w W1) := b1
  have HS : Hid (SB W1 w.heap.size 24 ⟨h, l, m, s, v⟩) := g1
  have ck := isKnown_any h l m s v W1
  clear b1 g1
  have hm := prb_mul ⟨h, l, m, s, v⟩ (prbK c) (prbK_le c)
  have hkl := prbK_le c
  have hkc : min (max c 0) 16 = ((prbK c : Nat) : Int) := by unfold prbK; omega
  unfold prb
  generalize prbK c = K at *
  by_cases hk : kn ⟨h, l, m, s, v⟩ = true
  · have er : prb0 ⟨h, l, m, s, v⟩ = max (s + 4 * v) 1 := by unfold prb0; rw [if_pos hk]
    obtain ⟨-, hl, -, hs, hv, -⟩ := kn_tm hk
    obtain ⟨q, hq⟩ : ∃ q, q = max (s + 4 * v) 1 := ⟨_, rfl⟩
    rw [er, ← hq] at hm ⊢
    have k1 := wrS (x := 4 * v) (by omega) (by omega)
    have k2 := wrS (x := s + 4 * v) (by omega) (by omega)
    have k3 := wrS (x := q * 2 ^ K) (by omega) (by omega)
    have k4 := hq.symm
    clear er hl hs hv hq hm
    go_enter Try.func12, Try.ntmps12
    go_upto_region 1 with fail
    rw [← hW1]
    clear hW1
    go_wp2_with (refine wpList_load_row rfl 24 _ rfl w.heap.size rfl 24 #[.bool h, .int .i64 l, .int .i64 m, .int .i64 s, .int .i64 v] (0, 0) _ HS.out Try.underlying24 rfl infoS ?_)
    refine ck.mono ?_
    rintro e w2 ⟨rfl, b2⟩
    have HB2 : Hid (Below w.heap.size w w2) := HB.out.trans (b2.mono HB.out.size)
    have HS2 : Hid (SB w2 w.heap.size 24 ⟨h, l, m, s, v⟩) := HS.out.kept b2
    obtain ⟨c0, c1, c2, c3, c4⟩ := HS2.out.sc
    clear ck b2 HB HS
    go_wp2
    go_ret
    exact ⟨rfl, HB2.out⟩
  · have er : prb0 ⟨h, l, m, s, v⟩ = 16 := by unfold prb0; rw [if_neg hk]
    have hk' : kn ⟨h, l, m, s, v⟩ = false := by simpa using hk
    rw [er] at hm ⊢
    have k3 := wrS (x := 16 * 2 ^ K) (by omega) (by omega)
    clear er hk hm
    go_enter Try.func12, Try.ntmps12
    go_upto_region 1 with fail
    rw [← hW1]
    clear hW1
    go_wp2_with (refine wpList_load_row rfl 24 _ rfl w.heap.size rfl 24 #[.bool h, .int .i64 l, .int .i64 m, .int .i64 s, .int .i64 v] (0, 0) _ HS.out Try.underlying24 rfl infoS ?_)
    refine ck.mono ?_
    rintro e w2 ⟨rfl, b2⟩
    have HB2 : Hid (Below w.heap.size w w2) := HB.out.trans (b2.mono HB.out.size)
    have HS2 : Hid (SB w2 w.heap.size 24 ⟨h, l, m, s, v⟩) := HS.out.kept b2
    obtain ⟨c0, c1, c2, c3, c4⟩ := HS2.out.sc
    clear ck b2 HB HS
    go_wp2
    go_ret
    exact ⟨rfl, HB2.out⟩
end Go.Proofs.Ytoocpdjemnbhiaa
