/-
  Whole numbers below 2^53 as floats of 64 bits: what a float of such a number reads as; that sums, differences, products, comparisons and conversions of such floats are those of the numbers.
-/
import Derived.WalkLawsBesides
namespace Go.Proofs.YtlhmpcmlpfffoaaDoor.Ro
open Ieee

/-- The float of a whole number. -/
def fl (n : Int) : Nat := floatOfInt .f64 n

theorem log2_mul_pow (m k : Nat) (h : m ≠ 0) : (m * 2 ^ k).log2 = m.log2 + k := by
  have h2 : m * 2 ^ k ≠ 0 := Nat.mul_ne_zero h (Nat.pos_iff_ne_zero.1 (Nat.two_pow_pos k))
  rw [Nat.log2_eq_iff h2]
  have a := Nat.log2_self_le h
  have b := @Nat.lt_log2_self m
  constructor
  · rw [Nat.pow_add]; exact Nat.mul_le_mul_right _ a
  · rw [show m.log2 + k + 1 = (m.log2 + 1) + k by omega, Nat.pow_add]; exact Nat.mul_lt_mul_of_pos_right b (Nat.two_pow_pos k)

theorem cut_exact (way : Toward) (neg : Bool) (m d : Nat) : way.cut neg (m * 2 ^ d) d = m := by
  rcases Nat.eq_zero_or_pos m with rfl | hp
  · unfold Toward.cut
    cases way <;> simp
  · have hm : min d ((m * 2 ^ d).log2 + 2) = d := by rw [log2_mul_pow m d (by omega)]; omega
    have hg : (0 : Nat) < 2 ^ d := Nat.two_pow_pos d
    unfold Toward.cut
    simp only [hm, Nat.shiftLeft_eq, Nat.one_mul, Nat.mul_mod_left, Nat.mul_div_cancel _ hg]
    cases way <;> simp

/-- The rung of a whole number from 1 on, below 2^53. -/
def rung (m : Nat) : Nat := (m.log2 + 1022) * 2 ^ 52 + m * 2 ^ (52 - m.log2)

theorem log_le {m : Nat} (h0 : m ≠ 0) (h : m < 2 ^ 53) : m.log2 ≤ 52 := by
  have := (Nat.log2_lt h0 (k := 53)).2 h; omega

theorem kept_bounds {m : Nat} (h0 : m ≠ 0) (h : m < 2 ^ 53) : 2 ^ 52 ≤ m * 2 ^ (52 - m.log2) ∧ m * 2 ^ (52 - m.log2) < 2 ^ 53 := by
  have hl := log_le h0 h
  have a := Nat.log2_self_le h0
  have b := @Nat.lt_log2_self m
  constructor
  · calc 2 ^ 52 = 2 ^ m.log2 * 2 ^ (52 - m.log2) := by rw [← Nat.pow_add]; congr 1; omega
      _ ≤ _ := Nat.mul_le_mul_right _ a
  · calc m * 2 ^ (52 - m.log2) < 2 ^ (m.log2 + 1) * 2 ^ (52 - m.log2) := Nat.mul_lt_mul_of_pos_right b (Nat.two_pow_pos _)
      _ = 2 ^ 53 := by rw [← Nat.pow_add]; congr 1; omega

theorem near (neg : Bool) (m k : Nat) (h0 : m ≠ 0) (h : m < 2 ^ 53) : double.nearest neg (m * 2 ^ k) (-(k : Int)) = double.word neg (rung m) := by
  have hl := log_le h0 h
  have hk := kept_bounds h0 h
  have h2 : m * 2 ^ k ≠ 0 := Nat.mul_ne_zero h0 (Nat.pos_iff_ne_zero.1 (Nat.two_pow_pos k))
  have hlast : max (-(k : Int) + ((m * 2 ^ k).log2 : Nat) - (double.fractionBits : Nat)) double.leastPlace = (m.log2 : Int) - 52 := by
    rw [log2_mul_pow m k h0]
    have e1 : double.leastPlace = -1074 := by decide
    have e2 : double.fractionBits = 52 := rfl
    rw [e1, e2]
    omega
  have hcut : Toward.even.cut neg ((m * 2 ^ k) <<< (-(k : Int) - ((m.log2 : Int) - 52)).toNat) ((m.log2 : Int) - 52 - -(k : Int)).toNat = m * 2 ^ (52 - m.log2) := by
    rw [Nat.shiftLeft_eq]
    by_cases hc : k ≤ 52 - m.log2
    · have e1 : (-(k : Int) - ((m.log2 : Int) - 52)).toNat = 52 - m.log2 - k := by omega
      have e2 : ((m.log2 : Int) - 52 - -(k : Int)).toNat = 0 := by omega
      rw [e1, e2, Nat.mul_assoc, ← Nat.pow_add, show k + (52 - m.log2 - k) = 52 - m.log2 by omega]
      have := cut_exact .even neg (m * 2 ^ (52 - m.log2)) 0
      rwa [Nat.pow_zero, Nat.mul_one] at this
    · have e1 : (-(k : Int) - ((m.log2 : Int) - 52)).toNat = 0 := by omega
      have e2 : ((m.log2 : Int) - 52 - -(k : Int)).toNat = k - (52 - m.log2) := by omega
      rw [e1, e2, Nat.pow_zero, Nat.mul_one, show m * 2 ^ k = m * 2 ^ (52 - m.log2) * 2 ^ (k - (52 - m.log2)) by rw [Nat.mul_assoc, ← Nat.pow_add]; congr 2; omega]
      exact cut_exact .even neg _ _
  unfold Format.nearest
  rw [if_neg h2]
  simp only [hlast, hcut]
  congr 1
  have e1 : double.leastPlace = -1074 := by decide
  have e2 : double.binade = 2 ^ 52 := rfl
  have e3 : double.infRung = 2047 * 2 ^ 52 := by decide
  rw [e1, e2, e3, show ((m.log2 : Int) - 52 - -1074).toNat = m.log2 + 1022 by omega]
  unfold rung
  rw [Nat.min_eq_left]
  have : (m.log2 + 1022) * 2 ^ 52 ≤ 1074 * 2 ^ 52 := Nat.mul_le_mul_right _ (by omega)
  have h3 := hk.2
  have e4 : (2 : Nat) ^ 53 = 2 * 2 ^ 52 := by decide
  rw [e4] at h3
  generalize (2 : Nat) ^ 52 = P at *
  generalize m * 2 ^ (52 - m.log2) = Q at *
  omega

theorem near0 (neg : Bool) (e : Int) : double.nearest neg 0 e = double.word neg 0 := by unfold Format.nearest; simp

theorem read_parts (f : Format) (word : Nat) (neg : Bool) (r : Nat) (h1 : (word / f.signWeight % 2 == 1) = neg) (h2 : word % f.signWeight = r) :
    f.read word = if r < f.binade then .number neg r f.leastPlace else if r < f.infRung then .number neg (f.binade + r % f.binade) (f.leastPlace + (r / f.binade - 1 : Nat)) else if r = f.infRung then .infinity neg else .nan neg (r - f.infRung) := by
  subst h1 h2; rfl

theorem read_word (neg : Bool) (m : Nat) (h0 : m ≠ 0) (h : m < 2 ^ 53) : double.read (double.word neg (rung m)) = .number neg (m * 2 ^ (52 - m.log2)) (-((52 - m.log2 : Nat) : Int)) := by
  have hl := log_le h0 h
  have hk := kept_bounds h0 h
  have es : double.signWeight = 2048 * 2 ^ 52 := by decide
  have eb : double.binade = 2 ^ 52 := rfl
  have ei : double.infRung = 2047 * 2 ^ 52 := by decide
  have el : double.leastPlace = -1074 := by decide
  have e4 : (2 : Nat) ^ 53 = 2 * 2 ^ 52 := by decide
  have hP : (0 : Nat) < 2 ^ 52 := by decide
  rw [e4] at hk
  have hw : ∀ r, double.word neg r = if neg = true then 2048 * 2 ^ 52 + r else r := fun r => by unfold Format.word; rw [es]
  rw [hw]
  unfold rung
  have RP := read_parts double
  rw [es, eb, ei, el] at RP
  clear hw es eb ei el
  generalize (2 : Nat) ^ 52 = P at *
  generalize m * 2 ^ (52 - m.log2) = Q at *
  generalize m.log2 = l at *
  obtain ⟨r, rfl⟩ : ∃ r, Q = P + r := ⟨Q - P, by omega⟩
  have hr : r < P := by omega
  have hQ : (l + 1022) * P + (P + r) = (l + 1023) * P + r := by have := Nat.succ_mul (l + 1022) P; rw [show l + 1023 = (l + 1022).succ from rfl, this]; omega
  rw [hQ]
  have hle : (l + 1023) * P ≤ 1075 * P := Nat.mul_le_mul_right _ (by omega)
  have hlt : (l + 1023) * P + r < 2048 * P := by omega
  have hmod : ((l + 1023) * P + r) % P = r := by rw [Nat.mul_comm, Nat.mul_add_mod, Nat.mod_eq_of_lt hr]
  have hdiv : ((l + 1023) * P + r) / P = l + 1023 := by rw [Nat.mul_comm, Nat.mul_add_div hP, Nat.div_eq_of_lt hr, Nat.add_zero]
  have hge : P ≤ (l + 1023) * P := Nat.le_mul_of_pos_left _ (by omega)
  have eneg : ((if neg = true then 2048 * P + ((l + 1023) * P + r) else (l + 1023) * P + r) / (2048 * P) % 2 == 1) = neg := by
    cases neg
    · simp only [Bool.false_eq_true, if_false]; rw [Nat.div_eq_of_lt hlt]; rfl
    · simp only [if_true]; rw [Nat.add_div_left _ (by omega), Nat.div_eq_of_lt hlt]; rfl
  have erung : (if neg = true then 2048 * P + ((l + 1023) * P + r) else (l + 1023) * P + r) % (2048 * P) = (l + 1023) * P + r := by
    cases neg
    · simp only [Bool.false_eq_true, if_false]; exact Nat.mod_eq_of_lt hlt
    · simp only [if_true]; rw [Nat.add_mod_left]; exact Nat.mod_eq_of_lt hlt
  rw [RP _ _ _ eneg erung, if_neg (by omega), if_pos (by omega), hmod, hdiv, show (-1074 : Int) + ((l + 1023 - 1 : Nat) : Int) = -((52 - l : Nat) : Int) by omega]

theorem fl_word (n : Int) (h0 : n ≠ 0) (h : n.natAbs < 2 ^ 53) : fl n = double.word (decide (n < 0)) (rung n.natAbs) := by
  have := near (decide (n < 0)) n.natAbs 0 (by omega) h
  rw [Nat.pow_zero, Nat.mul_one] at this
  exact this

theorem fl_zero : fl 0 = 0 := by decide

/-- What the float of a whole number reads as. -/
theorem read_fl (n : Int) (h : n.natAbs < 2 ^ 53) : ∃ k : Nat, double.read (fl n) = .number (decide (n < 0)) (n.natAbs * 2 ^ k) (-(k : Int)) := by
  by_cases h0 : n = 0
  · subst h0
    obtain ⟨k, hk⟩ : ∃ k : Nat, k = 1074 := ⟨_, rfl⟩
    refine ⟨k, ?_⟩
    rw [fl_zero, Int.natAbs_zero, Nat.zero_mul, hk]
    decide
  · exact ⟨_, by rw [fl_word n h0 h]; exact read_word _ _ (by omega) h⟩

theorem write_fl (n : Int) (neg : Bool) (k : Nat) (h : n.natAbs < 2 ^ 53) (hn : neg = decide (n < 0)) : double.write (.number neg (n.natAbs * 2 ^ k) (-(k : Int))) = fl n := by
  subst hn
  show double.nearest _ _ _ = _
  by_cases h0 : n = 0
  · subst h0
    simp only [Int.natAbs_zero, Nat.zero_mul, near0, fl_zero]
    rfl
  · rw [near _ _ _ (by omega) h, fl_word n h0 h]

theorem signed_eq (n : Int) (k d : Nat) : signed (decide (n < 0)) (n.natAbs * 2 ^ k) d = n * ((2 ^ (k + d) : Nat) : Int) := by
  unfold signed
  rw [Nat.shiftLeft_eq, Nat.mul_assoc, ← Nat.pow_add]
  generalize (2 : Nat) ^ (k + d) = P
  by_cases h : n < 0
  · rw [if_pos (by simpa using h), Int.natCast_mul, ← Int.neg_mul]; congr 1; omega
  · rw [if_neg (by simpa using h), Int.natCast_mul]; congr 1; omega

theorem signed_neg (n : Int) (k d : Nat) : signed (!decide (n < 0)) (n.natAbs * 2 ^ k) d = -n * ((2 ^ (k + d) : Nat) : Int) := by
  unfold signed
  rw [Nat.shiftLeft_eq, Nat.mul_assoc, ← Nat.pow_add]
  generalize (2 : Nat) ^ (k + d) = P
  by_cases h : n < 0
  · rw [if_neg (by simpa using h), Int.natCast_mul]; congr 1; omega
  · rw [if_pos (by simpa using h), Int.natCast_mul, ← Int.neg_mul]; congr 1; omega

theorem mul_pow_lt (n : Int) (M : Nat) : n * ((2 ^ M : Nat) : Int) < 0 ↔ n < 0 := by
  have hp : (0 : Int) < ((2 ^ M : Nat) : Int) := by exact_mod_cast Nat.two_pow_pos M
  constructor
  · intro h
    refine Int.not_le.1 fun hn => ?_
    have := Int.mul_nonneg hn (Int.le_of_lt hp)
    omega
  · intro h
    exact Int.mul_neg_of_neg_of_pos h hp

theorem mul_pow_zero (n : Int) (M : Nat) : n * ((2 ^ M : Nat) : Int) = 0 ↔ n = 0 := by
  have hp : ((2 ^ M : Nat) : Int) ≠ 0 := by have := Nat.two_pow_pos M; omega
  rw [Int.mul_eq_zero]
  constructor
  · rintro (h | h)
    · exact h
    · exact absurd h hp
  · exact Or.inl

theorem natAbs_pow (n : Int) (M : Nat) : (n * ((2 ^ M : Nat) : Int)).natAbs = n.natAbs * 2 ^ M := by rw [Int.natAbs_mul]; rfl

theorem min_neg (k l : Nat) : min (-(k : Int)) (-(l : Int)) = -((max k l : Nat) : Int) := by omega

theorem add_fl (x y : Int) (hx : x.natAbs < 2 ^ 53) (hy : y.natAbs < 2 ^ 53) (h : (x + y).natAbs < 2 ^ 53) : floatBits .add .f64 (fl x) (fl y) = some (fl (x + y)) := by
  obtain ⟨k, ek⟩ := read_fl x hx
  obtain ⟨l, el⟩ := read_fl y hy
  show ((double.read (fl x)).sum (double.read (fl y))).map double.write = _
  rw [ek, el]
  unfold Datum.sum
  simp only [min_neg, signed_eq, Option.map_some, Option.some.injEq]
  have e1 : k + (-(k : Int) - -((max k l : Nat) : Int)).toNat = max k l := by omega
  have e2 : l + (-(l : Int) - -((max k l : Nat) : Int)).toNat = max k l := by omega
  rw [e1, e2, ← Int.add_mul, natAbs_pow]
  refine write_fl (x + y) _ _ h ?_
  simp only [mul_pow_lt, mul_pow_zero]
  split
  · rename_i h0
    by_cases hx0 : x < 0
    · have : ¬ y < 0 := by omega
      simp [this, h0]
    · simp [hx0, h0]
  · rfl

theorem sub_fl (x y : Int) (hx : x.natAbs < 2 ^ 53) (hy : y.natAbs < 2 ^ 53) (h : (x - y).natAbs < 2 ^ 53) : floatBits .sub .f64 (fl x) (fl y) = some (fl (x - y)) := by
  obtain ⟨k, ek⟩ := read_fl x hx
  obtain ⟨l, el⟩ := read_fl y hy
  show ((double.read (fl x)).sum (double.read (fl y)).opposite).map double.write = _
  rw [ek, el]
  unfold Datum.sum Datum.opposite
  simp only [min_neg, signed_eq, signed_neg, Option.map_some, Option.some.injEq]
  have e1 : k + (-(k : Int) - -((max k l : Nat) : Int)).toNat = max k l := by omega
  have e2 : l + (-(l : Int) - -((max k l : Nat) : Int)).toNat = max k l := by omega
  rw [e1, e2, ← Int.add_mul, ← Int.sub_eq_add_neg, natAbs_pow]
  refine write_fl (x - y) _ _ h ?_
  simp only [mul_pow_lt, mul_pow_zero]
  split
  · rename_i h0
    by_cases hx0 : x < 0
    · have : y < 0 := by omega
      simp [this, h0]
    · simp [hx0, h0]
  · rfl

theorem mul_fl (x y : Int) (hx : x.natAbs < 2 ^ 53) (hy : y.natAbs < 2 ^ 53) (x0 : 0 ≤ x) (y0 : 0 ≤ y) (h : (x * y).natAbs < 2 ^ 53) : floatBits .mul .f64 (fl x) (fl y) = some (fl (x * y)) := by
  obtain ⟨k, ek⟩ := read_fl x hx
  obtain ⟨l, el⟩ := read_fl y hy
  show ((double.read (fl x)).product (double.read (fl y))).map double.write = _
  rw [ek, el]
  unfold Datum.product
  simp only [Option.map_some, Option.some.injEq]
  have e1 : x.natAbs * 2 ^ k * (y.natAbs * 2 ^ l) = (x * y).natAbs * 2 ^ (k + l) := by
    rw [Int.natAbs_mul, Nat.pow_add]; simp only [Nat.mul_assoc, Nat.mul_left_comm]
  have e2 : -(k : Int) + -(l : Int) = -((k + l : Nat) : Int) := by omega
  rw [e1, e2]
  refine write_fl (x * y) _ _ h ?_
  have := Int.mul_nonneg x0 y0
  simp [show ¬ x < 0 by omega, show ¬ y < 0 by omega, show ¬ x * y < 0 by omega]

theorem compare_mul (x y : Int) (M : Nat) : compare (x * ((2 ^ M : Nat) : Int)) (y * ((2 ^ M : Nat) : Int)) = compare x y := by
  have hp : (0 : Int) < ((2 ^ M : Nat) : Int) := by exact_mod_cast Nat.two_pow_pos M
  have h1 : x * ((2 ^ M : Nat) : Int) < y * ((2 ^ M : Nat) : Int) ↔ x < y := by
    have := mul_pow_lt (x - y) M
    rw [Int.sub_mul] at this
    omega
  have h2 : x * ((2 ^ M : Nat) : Int) = y * ((2 ^ M : Nat) : Int) ↔ x = y := by
    have := mul_pow_zero (x - y) M
    rw [Int.sub_mul] at this
    omega
  simp only [compare, compareOfLessAndEq, h1, h2]

theorem order_fl (x y : Int) (hx : x.natAbs < 2 ^ 53) (hy : y.natAbs < 2 ^ 53) : FloatKind.f64.format.order (fl x) (fl y) = some (compare x y) := by
  obtain ⟨k, ek⟩ := read_fl x hx
  obtain ⟨l, el⟩ := read_fl y hy
  show (double.read (fl x)).order (double.read (fl y)) = _
  rw [ek, el]
  unfold Datum.order
  simp only [min_neg, signed_eq, Option.some.injEq]
  have e1 : k + (-(k : Int) - -((max k l : Nat) : Int)).toNat = max k l := by omega
  have e2 : l + (-(l : Int) - -((max k l : Nat) : Int)).toNat = max k l := by omega
  rw [e1, e2, compare_mul]

theorem eq_fl (x y : Int) (hx : x.natAbs < 2 ^ 53) (hy : y.natAbs < 2 ^ 53) : (FloatKind.f64.format.order (fl x) (fl y) == some Ordering.eq) = decide (x = y) := by
  rw [order_fl x y hx hy]
  simp only [compare, compareOfLessAndEq]
  by_cases h1 : x < y
  · have : ¬ x = y := by omega
    simp [h1, this]
  · by_cases h2 : x = y
    · simp [h2]
    · simp [h1, h2]

theorem le_fl (x y : Int) (hx : x.natAbs < 2 ^ 53) (hy : y.natAbs < 2 ^ 53) : (FloatKind.f64.format.order (fl x) (fl y) == some Ordering.lt || FloatKind.f64.format.order (fl x) (fl y) == some Ordering.eq) = decide (x ≤ y) := by
  rw [order_fl x y hx hy]
  simp only [compare, compareOfLessAndEq]
  by_cases h1 : x < y
  · simp [h1, Int.le_of_lt h1]
  · by_cases h2 : x = y
    · simp [h2]
    · have : ¬ x ≤ y := by omega
      simp [h1, h2, this]

theorem ge_fl (x y : Int) (hx : x.natAbs < 2 ^ 53) (hy : y.natAbs < 2 ^ 53) : (FloatKind.f64.format.order (fl x) (fl y) == some Ordering.gt || FloatKind.f64.format.order (fl x) (fl y) == some Ordering.eq) = decide (y ≤ x) := by
  rw [order_fl x y hx hy]
  simp only [compare, compareOfLessAndEq]
  by_cases h1 : x < y
  · have : ¬ y ≤ x := by omega
    simp [h1, this]
  · by_cases h2 : x = y
    · simp [h2]
    · have : y ≤ x := by omega
      simp [h1, h2, this]

theorem int_fl (x : Int) (hx : x.natAbs < 2 ^ 53) : floatToIntVal .f64 (fl x) .i64 = some x := by
  obtain ⟨k, ek⟩ := read_fl x hx
  unfold floatToIntVal FloatKind.decode
  show (match (double.read (fl x)).toInt .zero with | some n => if IntKind.i64.min ≤ n ∧ n ≤ IntKind.i64.max then some n else none | none => none) = _
  rw [ek]
  have e1 : (-(k : Int)).toNat = 0 := by omega
  have e2 : (- -(k : Int)).toNat = k := by omega
  have e3 : Datum.toInt .zero (.number (decide (x < 0)) (x.natAbs * 2 ^ k) (-(k : Int))) = some x := by
    unfold Datum.toInt Datum.integral
    simp only [e1, e2, Nat.shiftLeft_eq, Nat.pow_zero, Nat.mul_one, cut_exact, Option.some.injEq]
    have := signed_eq x 0 0
    rw [Nat.pow_zero, Nat.mul_one] at this
    rw [this]; simp
  rw [e3]
  have hmin : IntKind.i64.min = -9223372036854775808 := by decide
  have hmax : IntKind.i64.max = 9223372036854775807 := by decide
  have h53 : (2 : Nat) ^ 53 = 9007199254740992 := by decide
  simp only
  rw [if_pos (by rw [hmin, hmax]; omega)]

theorem i64_and65535 (n : Int) : bits .and .i64 n 65535 = n % 65536 := by
  have hm : (BitVec.ofInt 64 65535).toNat = 2 ^ 16 - 1 := by decide
  have key : (BitVec.ofInt 64 n &&& BitVec.ofInt 64 65535).toNat = (n % ((2 ^ 64 : Nat) : Int)).toNat % 2 ^ 16 := by
    rw [BitVec.toNat_and, BitVec.toNat_ofInt, hm, Nat.and_two_pow_sub_one_eq_mod]
  show IntKind.i64.wrap ((BitVec.ofInt 64 n &&& BitVec.ofInt 64 65535).toNat : Nat) = n % 65536
  rw [key, IntKind.wrap_i64]
  omega

theorem fl_lo : (14055734437023318016 : Nat) = fl (-1125899906842624) := by decide
theorem fl_hi : (4832362400168542208 : Nat) = fl 1125899906842624 := by decide
theorem fl_nought : (0 : Nat) = fl 0 := by decide
theorem fl_six : (4618441417868443648 : Nat) = fl 6 := by decide
theorem fl_ten : (4621819117588971520 : Nat) = fl 10 := by decide
end Go.Proofs.YtlhmpcmlpfffoaaDoor.Ro
