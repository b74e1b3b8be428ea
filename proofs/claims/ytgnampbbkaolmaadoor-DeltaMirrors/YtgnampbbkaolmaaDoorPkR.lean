/-
  Whole numbers below 2^53 as floats of 64 bits: what a float of such a number reads as; that sums, differences, products, comparisons and conversions of such floats are those of the numbers.
  The document's pair of bytes, plainly: the sum of all, and the sum of each as often as there are bytes from it on; how both change with a byte more behind and a byte less ahead.
  What roll's inner functions answer: remainder, whole, reduced, counted, with, without; Pair, Pack and Sum of bytes; nothing is changed.
  What Pair, Pack and Sum of roll answer, and the document's Halves, Sum and Pack; nothing is changed.
  What the document's Halves, Sum and Pack answer; nothing is changed.
  Slices of bytes changed at one place, laid anew (bytes.Clone).
  A window, as the walks read it; what New, Len, Sum, Bytes and Fork answer.
  What a window's Bytes and Fork answer: a row of the call's own, a window of its own.
  What a window's In leaves: its bytes and one more; all but the window and its row is as it was.
  What a window's Out and Roll answer and leave: its first byte is gone; all but the window and its row is as it was.
  What a window's Out and Roll answer and leave.
-/
import Derived.WalkLawsBesides
import Derived.Test.YtgnampbbkaolmaaDoorBas
import Derived.Test.YtgnampbbkaolmaaDoorBa
import Derived.Maps.AppendAt
import Derived.BigQuiet
import Derived.Deep.RegionWith
import Derived.Deep.RegionHeld3
namespace Go.Proofs.YtgnampbbkaolmaaDoor.Ro
open Ieee

/-- The float of a whole number. -/
def fl (n : Int) : Nat := floatOfInt .f64 n

theorem log2_mul_pow (m k : Nat) (h : m ≠ 0) : (m * 2 ^ k).log2 = m.log2 + k := by
  have h2 : m * 2 ^ k ≠ 0 := Nat.mul_ne_zero h (Nat.pos_iff_ne_zero.1 (Nat.two_pow_pos k))
  rw [Nat.log2_eq_iff h2]
  have a := Nat.log2_self_le h
  have b := @Nat.lt_log2_self m
  constructor
  · rw [Nat.pow_add]; exact Nat.mul_le_mul_right _ a
  · rw [show m.log2 + k + 1 = (m.log2 + 1) + k by omega, Nat.pow_add]; exact Nat.mul_lt_mul_of_pos_right b (Nat.two_pow_pos k)

theorem cut_exact (way : Toward) (neg : Bool) (m d : Nat) : way.cut neg (m * 2 ^ d) d = m := by
  rcases Nat.eq_zero_or_pos m with rfl | hp
  · unfold Toward.cut
    cases way <;> simp
  · have hm : min d ((m * 2 ^ d).log2 + 2) = d := by rw [log2_mul_pow m d (by omega)]; omega
    have hg : (0 : Nat) < 2 ^ d := Nat.two_pow_pos d
    unfold Toward.cut
    simp only [hm, Nat.shiftLeft_eq, Nat.one_mul, Nat.mul_mod_left, Nat.mul_div_cancel _ hg]
    cases way <;> simp

/-- The rung of a whole number from 1 on, below 2^53. -/
def rung (m : Nat) : Nat := (m.log2 + 1022) * 2 ^ 52 + m * 2 ^ (52 - m.log2)

theorem log_le {m : Nat} (h0 : m ≠ 0) (h : m < 2 ^ 53) : m.log2 ≤ 52 := by
  have := (Nat.log2_lt h0 (k := 53)).2 h; omega

theorem kept_bounds {m : Nat} (h0 : m ≠ 0) (h : m < 2 ^ 53) : 2 ^ 52 ≤ m * 2 ^ (52 - m.log2) ∧ m * 2 ^ (52 - m.log2) < 2 ^ 53 := by
  have hl := log_le h0 h
  have a := Nat.log2_self_le h0
  have b := @Nat.lt_log2_self m
  constructor
  · calc 2 ^ 52 = 2 ^ m.log2 * 2 ^ (52 - m.log2) := by rw [← Nat.pow_add]; congr 1; omega
      _ ≤ _ := Nat.mul_le_mul_right _ a
  · calc m * 2 ^ (52 - m.log2) < 2 ^ (m.log2 + 1) * 2 ^ (52 - m.log2) := Nat.mul_lt_mul_of_pos_right b (Nat.two_pow_pos _)
      _ = 2 ^ 53 := by rw [← Nat.pow_add]; congr 1; omega

theorem near (neg : Bool) (m k : Nat) (h0 : m ≠ 0) (h : m < 2 ^ 53) : double.nearest neg (m * 2 ^ k) (-(k : Int)) = double.word neg (rung m) := by
  have hl := log_le h0 h
  have hk := kept_bounds h0 h
  have h2 : m * 2 ^ k ≠ 0 := Nat.mul_ne_zero h0 (Nat.pos_iff_ne_zero.1 (Nat.two_pow_pos k))
  have hlast : max (-(k : Int) + ((m * 2 ^ k).log2 : Nat) - (double.fractionBits : Nat)) double.leastPlace = (m.log2 : Int) - 52 := by
    rw [log2_mul_pow m k h0]
    have e1 : double.leastPlace = -1074 := by decide
    have e2 : double.fractionBits = 52 := rfl
    rw [e1, e2]
    omega
  have hcut : Toward.even.cut neg ((m * 2 ^ k) <<< (-(k : Int) - ((m.log2 : Int) - 52)).toNat) ((m.log2 : Int) - 52 - -(k : Int)).toNat = m * 2 ^ (52 - m.log2) := by
    rw [Nat.shiftLeft_eq]
    by_cases hc : k ≤ 52 - m.log2
    · have e1 : (-(k : Int) - ((m.log2 : Int) - 52)).toNat = 52 - m.log2 - k := by omega
      have e2 : ((m.log2 : Int) - 52 - -(k : Int)).toNat = 0 := by omega
      rw [e1, e2, Nat.mul_assoc, ← Nat.pow_add, show k + (52 - m.log2 - k) = 52 - m.log2 by omega]
      have := cut_exact .even neg (m * 2 ^ (52 - m.log2)) 0
      rwa [Nat.pow_zero, Nat.mul_one] at this
    · have e1 : (-(k : Int) - ((m.log2 : Int) - 52)).toNat = 0 := by omega
      have e2 : ((m.log2 : Int) - 52 - -(k : Int)).toNat = k - (52 - m.log2) := by omega
      rw [e1, e2, Nat.pow_zero, Nat.mul_one, show m * 2 ^ k = m * 2 ^ (52 - m.log2) * 2 ^ (k - (52 - m.log2)) by rw [Nat.mul_assoc, ← Nat.pow_add]; congr 2; omega]
      exact cut_exact .even neg _ _
  unfold Format.nearest
  rw [if_neg h2]
  simp only [hlast, hcut]
  congr 1
  have e1 : double.leastPlace = -1074 := by decide
  have e2 : double.binade = 2 ^ 52 := rfl
  have e3 : double.infRung = 2047 * 2 ^ 52 := by decide
  rw [e1, e2, e3, show ((m.log2 : Int) - 52 - -1074).toNat = m.log2 + 1022 by omega]
  unfold rung
  rw [Nat.min_eq_left]
  have : (m.log2 + 1022) * 2 ^ 52 ≤ 1074 * 2 ^ 52 := Nat.mul_le_mul_right _ (by omega)
  have h3 := hk.2
  have e4 : (2 : Nat) ^ 53 = 2 * 2 ^ 52 := by decide
  rw [e4] at h3
  generalize (2 : Nat) ^ 52 = P at *
  generalize m * 2 ^ (52 - m.log2) = Q at *
  omega

theorem near0 (neg : Bool) (e : Int) : double.nearest neg 0 e = double.word neg 0 := by unfold Format.nearest; simp

theorem read_parts (f : Format) (word : Nat) (neg : Bool) (r : Nat) (h1 : (word / f.signWeight % 2 == 1) = neg) (h2 : word % f.signWeight = r) :
    f.read word = if r < f.binade then .number neg r f.leastPlace else if r < f.infRung then .number neg (f.binade + r % f.binade) (f.leastPlace + (r / f.binade - 1 : Nat)) else if r = f.infRung then .infinity neg else .nan neg (r - f.infRung) := by
  subst h1 h2; rfl

theorem read_word (neg : Bool) (m : Nat) (h0 : m ≠ 0) (h : m < 2 ^ 53) : double.read (double.word neg (rung m)) = .number neg (m * 2 ^ (52 - m.log2)) (-((52 - m.log2 : Nat) : Int)) := by
  have hl := log_le h0 h
  have hk := kept_bounds h0 h
  have es : double.signWeight = 2048 * 2 ^ 52 := by decide
  have eb : double.binade = 2 ^ 52 := rfl
  have ei : double.infRung = 2047 * 2 ^ 52 := by decide
  have el : double.leastPlace = -1074 := by decide
  have e4 : (2 : Nat) ^ 53 = 2 * 2 ^ 52 := by decide
  have hP : (0 : Nat) < 2 ^ 52 := by decide
  rw [e4] at hk
  have hw : ∀ r, double.word neg r = if neg = true then 2048 * 2 ^ 52 + r else r := fun r => by unfold Format.word; rw [es]
  rw [hw]
  unfold rung
  have RP := read_parts double
  rw [es, eb, ei, el] at RP
  clear hw es eb ei el
  generalize (2 : Nat) ^ 52 = P at *
  generalize m * 2 ^ (52 - m.log2) = Q at *
  generalize m.log2 = l at *
  obtain ⟨r, rfl⟩ : ∃ r, Q = P + r := ⟨Q - P, by omega⟩
  have hr : r < P := by omega
  have hQ : (l + 1022) * P + (P + r) = (l + 1023) * P + r := by have := Nat.succ_mul (l + 1022) P; rw [show l + 1023 = (l + 1022).succ from rfl, this]; omega
  rw [hQ]
  have hle : (l + 1023) * P ≤ 1075 * P := Nat.mul_le_mul_right _ (by omega)
  have hlt : (l + 1023) * P + r < 2048 * P := by omega
  have hmod : ((l + 1023) * P + r) % P = r := by rw [Nat.mul_comm, Nat.mul_add_mod, Nat.mod_eq_of_lt hr]
  have hdiv : ((l + 1023) * P + r) / P = l + 1023 := by rw [Nat.mul_comm, Nat.mul_add_div hP, Nat.div_eq_of_lt hr, Nat.add_zero]
  have hge : P ≤ (l + 1023) * P := Nat.le_mul_of_pos_left _ (by omega)
  have eneg : ((if neg = true then 2048 * P + ((l + 1023) * P + r) else (l + 1023) * P + r) / (2048 * P) % 2 == 1) = neg := by
    cases neg
    · simp only [Bool.false_eq_true, if_false]; rw [Nat.div_eq_of_lt hlt]; rfl
    · simp only [if_true]; rw [Nat.add_div_left _ (by omega), Nat.div_eq_of_lt hlt]; rfl
  have erung : (if neg = true then 2048 * P + ((l + 1023) * P + r) else (l + 1023) * P + r) % (2048 * P) = (l + 1023) * P + r := by
    cases neg
    · simp only [Bool.false_eq_true, if_false]; exact Nat.mod_eq_of_lt hlt
    · simp only [if_true]; rw [Nat.add_mod_left]; exact Nat.mod_eq_of_lt hlt
  rw [RP _ _ _ eneg erung, if_neg (by omega), if_pos (by omega), hmod, hdiv, show (-1074 : Int) + ((l + 1023 - 1 : Nat) : Int) = -((52 - l : Nat) : Int) by omega]

theorem fl_word (n : Int) (h0 : n ≠ 0) (h : n.natAbs < 2 ^ 53) : fl n = double.word (decide (n < 0)) (rung n.natAbs) := by
  have := near (decide (n < 0)) n.natAbs 0 (by omega) h
  rw [Nat.pow_zero, Nat.mul_one] at this
  exact this

theorem fl_zero : fl 0 = 0 := by decide

/-- What the float of a whole number reads as. -/
theorem read_fl (n : Int) (h : n.natAbs < 2 ^ 53) : ∃ k : Nat, double.read (fl n) = .number (decide (n < 0)) (n.natAbs * 2 ^ k) (-(k : Int)) := by
  by_cases h0 : n = 0
  · subst h0
    obtain ⟨k, hk⟩ : ∃ k : Nat, k = 1074 := ⟨_, rfl⟩
    refine ⟨k, ?_⟩
    rw [fl_zero, Int.natAbs_zero, Nat.zero_mul, hk]
    decide
  · exact ⟨_, by rw [fl_word n h0 h]; exact read_word _ _ (by omega) h⟩

theorem write_fl (n : Int) (neg : Bool) (k : Nat) (h : n.natAbs < 2 ^ 53) (hn : neg = decide (n < 0)) : double.write (.number neg (n.natAbs * 2 ^ k) (-(k : Int))) = fl n := by
  subst hn
  show double.nearest _ _ _ = _
  by_cases h0 : n = 0
  · subst h0
    simp only [Int.natAbs_zero, Nat.zero_mul, near0, fl_zero]
    rfl
  · rw [near _ _ _ (by omega) h, fl_word n h0 h]

theorem signed_eq (n : Int) (k d : Nat) : signed (decide (n < 0)) (n.natAbs * 2 ^ k) d = n * ((2 ^ (k + d) : Nat) : Int) := by
  unfold signed
  rw [Nat.shiftLeft_eq, Nat.mul_assoc, ← Nat.pow_add]
  generalize (2 : Nat) ^ (k + d) = P
  by_cases h : n < 0
  · rw [if_pos (by simpa using h), Int.natCast_mul, ← Int.neg_mul]; congr 1; omega
  · rw [if_neg (by simpa using h), Int.natCast_mul]; congr 1; omega

theorem signed_neg (n : Int) (k d : Nat) : signed (!decide (n < 0)) (n.natAbs * 2 ^ k) d = -n * ((2 ^ (k + d) : Nat) : Int) := by
  unfold signed
  rw [Nat.shiftLeft_eq, Nat.mul_assoc, ← Nat.pow_add]
  generalize (2 : Nat) ^ (k + d) = P
  by_cases h : n < 0
  · rw [if_neg (by simpa using h), Int.natCast_mul]; congr 1; omega
  · rw [if_pos (by simpa using h), Int.natCast_mul, ← Int.neg_mul]; congr 1; omega

theorem mul_pow_lt (n : Int) (M : Nat) : n * ((2 ^ M : Nat) : Int) < 0 ↔ n < 0 := by
  have hp : (0 : Int) < ((2 ^ M : Nat) : Int) := by exact_mod_cast Nat.two_pow_pos M
  constructor
  · intro h
    refine Int.not_le.1 fun hn => ?_
    have := Int.mul_nonneg hn (Int.le_of_lt hp)
    omega
  · intro h
    exact Int.mul_neg_of_neg_of_pos h hp

theorem mul_pow_zero (n : Int) (M : Nat) : n * ((2 ^ M : Nat) : Int) = 0 ↔ n = 0 := by
  have hp : ((2 ^ M : Nat) : Int) ≠ 0 := by have := Nat.two_pow_pos M; omega
  rw [Int.mul_eq_zero]
  constructor
  · rintro (h | h)
    · exact h
    · exact absurd h hp
  · exact Or.inl

theorem natAbs_pow (n : Int) (M : Nat) : (n * ((2 ^ M : Nat) : Int)).natAbs = n.natAbs * 2 ^ M := by rw [Int.natAbs_mul]; rfl

theorem min_neg (k l : Nat) : min (-(k : Int)) (-(l : Int)) = -((max k l : Nat) : Int) := by omega

theorem add_fl (x y : Int) (hx : x.natAbs < 2 ^ 53) (hy : y.natAbs < 2 ^ 53) (h : (x + y).natAbs < 2 ^ 53) : floatBits .add .f64 (fl x) (fl y) = some (fl (x + y)) := by
  obtain ⟨k, ek⟩ := read_fl x hx
  obtain ⟨l, el⟩ := read_fl y hy
  show ((double.read (fl x)).sum (double.read (fl y))).map double.write = _
  rw [ek, el]
  unfold Datum.sum
  simp only [min_neg, signed_eq, Option.map_some, Option.some.injEq]
  have e1 : k + (-(k : Int) - -((max k l : Nat) : Int)).toNat = max k l := by omega
  have e2 : l + (-(l : Int) - -((max k l : Nat) : Int)).toNat = max k l := by omega
  rw [e1, e2, ← Int.add_mul, natAbs_pow]
  refine write_fl (x + y) _ _ h ?_
  simp only [mul_pow_lt, mul_pow_zero]
  split
  · rename_i h0
    by_cases hx0 : x < 0
    · have : ¬ y < 0 := by omega
      simp [this, h0]
    · simp [hx0, h0]
  · rfl

theorem sub_fl (x y : Int) (hx : x.natAbs < 2 ^ 53) (hy : y.natAbs < 2 ^ 53) (h : (x - y).natAbs < 2 ^ 53) : floatBits .sub .f64 (fl x) (fl y) = some (fl (x - y)) := by
  obtain ⟨k, ek⟩ := read_fl x hx
  obtain ⟨l, el⟩ := read_fl y hy
  show ((double.read (fl x)).sum (double.read (fl y)).opposite).map double.write = _
  rw [ek, el]
  unfold Datum.sum Datum.opposite
  simp only [min_neg, signed_eq, signed_neg, Option.map_some, Option.some.injEq]
  have e1 : k + (-(k : Int) - -((max k l : Nat) : Int)).toNat = max k l := by omega
  have e2 : l + (-(l : Int) - -((max k l : Nat) : Int)).toNat = max k l := by omega
  rw [e1, e2, ← Int.add_mul, ← Int.sub_eq_add_neg, natAbs_pow]
  refine write_fl (x - y) _ _ h ?_
  simp only [mul_pow_lt, mul_pow_zero]
  split
  · rename_i h0
    by_cases hx0 : x < 0
    · have : y < 0 := by omega
      simp [this, h0]
    · simp [hx0, h0]
  · rfl

theorem mul_fl (x y : Int) (hx : x.natAbs < 2 ^ 53) (hy : y.natAbs < 2 ^ 53) (x0 : 0 ≤ x) (y0 : 0 ≤ y) (h : (x * y).natAbs < 2 ^ 53) : floatBits .mul .f64 (fl x) (fl y) = some (fl (x * y)) := by
  obtain ⟨k, ek⟩ := read_fl x hx
  obtain ⟨l, el⟩ := read_fl y hy
  show ((double.read (fl x)).product (double.read (fl y))).map double.write = _
  rw [ek, el]
  unfold Datum.product
  simp only [Option.map_some, Option.some.injEq]
  have e1 : x.natAbs * 2 ^ k * (y.natAbs * 2 ^ l) = (x * y).natAbs * 2 ^ (k + l) := by
    rw [Int.natAbs_mul, Nat.pow_add]; simp only [Nat.mul_assoc, Nat.mul_left_comm]
  have e2 : -(k : Int) + -(l : Int) = -((k + l : Nat) : Int) := by omega
  rw [e1, e2]
  refine write_fl (x * y) _ _ h ?_
  have := Int.mul_nonneg x0 y0
  simp [show ¬ x < 0 by omega, show ¬ y < 0 by omega, show ¬ x * y < 0 by omega]

theorem compare_mul (x y : Int) (M : Nat) : compare (x * ((2 ^ M : Nat) : Int)) (y * ((2 ^ M : Nat) : Int)) = compare x y := by
  have hp : (0 : Int) < ((2 ^ M : Nat) : Int) := by exact_mod_cast Nat.two_pow_pos M
  have h1 : x * ((2 ^ M : Nat) : Int) < y * ((2 ^ M : Nat) : Int) ↔ x < y := by
    have := mul_pow_lt (x - y) M
    rw [Int.sub_mul] at this
    omega
  have h2 : x * ((2 ^ M : Nat) : Int) = y * ((2 ^ M : Nat) : Int) ↔ x = y := by
    have := mul_pow_zero (x - y) M
    rw [Int.sub_mul] at this
    omega
  simp only [compare, compareOfLessAndEq, h1, h2]

theorem order_fl (x y : Int) (hx : x.natAbs < 2 ^ 53) (hy : y.natAbs < 2 ^ 53) : FloatKind.f64.format.order (fl x) (fl y) = some (compare x y) := by
  obtain ⟨k, ek⟩ := read_fl x hx
  obtain ⟨l, el⟩ := read_fl y hy
  show (double.read (fl x)).order (double.read (fl y)) = _
  rw [ek, el]
  unfold Datum.order
  simp only [min_neg, signed_eq, Option.some.injEq]
  have e1 : k + (-(k : Int) - -((max k l : Nat) : Int)).toNat = max k l := by omega
  have e2 : l + (-(l : Int) - -((max k l : Nat) : Int)).toNat = max k l := by omega
  rw [e1, e2, compare_mul]

theorem eq_fl (x y : Int) (hx : x.natAbs < 2 ^ 53) (hy : y.natAbs < 2 ^ 53) : (FloatKind.f64.format.order (fl x) (fl y) == some Ordering.eq) = decide (x = y) := by
  rw [order_fl x y hx hy]
  simp only [compare, compareOfLessAndEq]
  by_cases h1 : x < y
  · have : ¬ x = y := by omega
    simp [h1, this]
  · by_cases h2 : x = y
    · simp [h2]
    · simp [h1, h2]

theorem le_fl (x y : Int) (hx : x.natAbs < 2 ^ 53) (hy : y.natAbs < 2 ^ 53) : (FloatKind.f64.format.order (fl x) (fl y) == some Ordering.lt || FloatKind.f64.format.order (fl x) (fl y) == some Ordering.eq) = decide (x ≤ y) := by
  rw [order_fl x y hx hy]
  simp only [compare, compareOfLessAndEq]
  by_cases h1 : x < y
  · simp [h1, Int.le_of_lt h1]
  · by_cases h2 : x = y
    · simp [h2]
    · have : ¬ x ≤ y := by omega
      simp [h1, h2, this]

theorem ge_fl (x y : Int) (hx : x.natAbs < 2 ^ 53) (hy : y.natAbs < 2 ^ 53) : (FloatKind.f64.format.order (fl x) (fl y) == some Ordering.gt || FloatKind.f64.format.order (fl x) (fl y) == some Ordering.eq) = decide (y ≤ x) := by
  rw [order_fl x y hx hy]
  simp only [compare, compareOfLessAndEq]
  by_cases h1 : x < y
  · have : ¬ y ≤ x := by omega
    simp [h1, this]
  · by_cases h2 : x = y
    · simp [h2]
    · have : y ≤ x := by omega
      simp [h1, h2, this]

theorem int_fl (x : Int) (hx : x.natAbs < 2 ^ 53) : floatToIntVal .f64 (fl x) .i64 = some x := by
  obtain ⟨k, ek⟩ := read_fl x hx
  unfold floatToIntVal FloatKind.decode
  show (match (double.read (fl x)).toInt .zero with | some n => if IntKind.i64.min ≤ n ∧ n ≤ IntKind.i64.max then some n else none | none => none) = _
  rw [ek]
  have e1 : (-(k : Int)).toNat = 0 := by omega
  have e2 : (- -(k : Int)).toNat = k := by omega
  have e3 : Datum.toInt .zero (.number (decide (x < 0)) (x.natAbs * 2 ^ k) (-(k : Int))) = some x := by
    unfold Datum.toInt Datum.integral
    simp only [e1, e2, Nat.shiftLeft_eq, Nat.pow_zero, Nat.mul_one, cut_exact, Option.some.injEq]
    have := signed_eq x 0 0
    rw [Nat.pow_zero, Nat.mul_one] at this
    rw [this]; simp
  rw [e3]
  have hmin : IntKind.i64.min = -9223372036854775808 := by decide
  have hmax : IntKind.i64.max = 9223372036854775807 := by decide
  have h53 : (2 : Nat) ^ 53 = 9007199254740992 := by decide
  simp only
  rw [if_pos (by rw [hmin, hmax]; omega)]

theorem i64_and65535 (n : Int) : bits .and .i64 n 65535 = n % 65536 := by
  have hm : (BitVec.ofInt 64 65535).toNat = 2 ^ 16 - 1 := by decide
  have key : (BitVec.ofInt 64 n &&& BitVec.ofInt 64 65535).toNat = (n % ((2 ^ 64 : Nat) : Int)).toNat % 2 ^ 16 := by
    rw [BitVec.toNat_and, BitVec.toNat_ofInt, hm, Nat.and_two_pow_sub_one_eq_mod]
  show IntKind.i64.wrap ((BitVec.ofInt 64 n &&& BitVec.ofInt 64 65535).toNat : Nat) = n % 65536
  rw [key, IntKind.wrap_i64]
  omega

theorem fl_lo : (14055734437023318016 : Nat) = fl (-1125899906842624) := by decide
theorem fl_hi : (4832362400168542208 : Nat) = fl 1125899906842624 := by decide
theorem fl_nought : (0 : Nat) = fl 0 := by decide
theorem fl_six : (4618441417868443648 : Nat) = fl 6 := by decide
theorem fl_ten : (4621819117588971520 : Nat) = fl 10 := by decide
end Go.Proofs.YtgnampbbkaolmaaDoor.Ro
namespace Go.Proofs.YtgnampbbkaolmaaDoor.Ro

def SA : List Int → Int
  | [] => 0
  | c :: zs => c + SA zs
def SB : List Int → Int
  | [] => 0
  | c :: zs => ((zs.length + 1 : Nat) : Int) * c + SB zs
/-- The first bytes of n, each as often as there are bytes from it on. -/
def SW (n : Int) : List Int → Int
  | [] => 0
  | c :: zs => n * c + SW (n - 1) zs

def pa (zs : List Int) : Int := SA zs % 65536
def pb (zs : List Int) : Int := SB zs % 65536
/-- The sum. -/
def rs (zs : List Int) : Int := pb zs * 65536 + pa zs

theorem SA_snoc (zs : List Int) (c : Int) : SA (zs ++ [c]) = SA zs + c := by
  induction zs with
  | nil => simp [SA]
  | cons d zs ih => simp only [List.cons_append, SA, ih]; omega

theorem SB_snoc (zs : List Int) (c : Int) : SB (zs ++ [c]) = SB zs + SA zs + c := by
  induction zs with
  | nil => simp [SB, SA]
  | cons d zs ih =>
    simp only [List.cons_append, SB, SA, ih, List.length_append, List.length_cons, List.length_nil]
    have : ((zs.length + (0 + 1) + 1 : Nat) : Int) * d = ((zs.length + 1 : Nat) : Int) * d + d := by
      rw [show ((zs.length + (0 + 1) + 1 : Nat) : Int) = ((zs.length + 1 : Nat) : Int) + 1 by omega, Int.add_mul, Int.one_mul]
    rw [this]; omega

theorem SW_snoc (zs : List Int) (c : Int) : ∀ n : Int, SW n (zs ++ [c]) = SW n zs + (n - zs.length) * c := by
  induction zs with
  | nil => intro n; simp [SW]
  | cons d zs ih =>
    intro n
    simp only [List.cons_append, SW, ih, List.length_cons]
    rw [show n - ((zs.length + 1 : Nat) : Int) = n - 1 - zs.length by omega]; omega

theorem SB_SW (zs : List Int) : SB zs = SW zs.length zs := by
  induction zs with
  | nil => rfl
  | cons d zs ih =>
    simp only [SB, SW, List.length_cons, ih]
    rw [show ((zs.length + 1 : Nat) : Int) - 1 = zs.length by omega]

theorem pa_range (zs : List Int) : 0 ≤ pa zs ∧ pa zs < 65536 := by unfold pa; omega
theorem pb_range (zs : List Int) : 0 ≤ pb zs ∧ pb zs < 65536 := by unfold pb; omega
theorem rs_range (zs : List Int) : 0 ≤ rs zs ∧ rs zs < 4294967296 := by
  have := pa_range zs; have := pb_range zs; unfold rs; omega

theorem pa_snoc (zs : List Int) (c : Int) : pa (zs ++ [c]) = (pa zs + c) % 65536 := by unfold pa; rw [SA_snoc]; omega
theorem pb_snoc (zs : List Int) (c : Int) : pb (zs ++ [c]) = (pb zs + pa zs + c) % 65536 := by unfold pb pa; rw [SB_snoc]; omega
theorem pa_tail (zs : List Int) (c : Int) : pa zs = (pa (c :: zs) - c) % 65536 := by unfold pa; simp only [SA]; omega
theorem pb_tail (zs : List Int) (c : Int) : pb zs = (pb (c :: zs) - ((zs.length + 1 : Nat) : Int) * c) % 65536 := by
  unfold pb; simp only [SB]
  generalize ((zs.length + 1 : Nat) : Int) * c = m
  omega

theorem pa_nil : pa [] = 0 := rfl
theorem pb_nil : pb [] = 0 := rfl

theorem take_next (zs : List Int) (j : Nat) (h : j < zs.length) : zs.take (j + 1) = zs.take j ++ [zs.getD j 0] := by
  rw [List.take_add_one, List.getElem?_eq_getElem h]
  simp [List.getD, List.getElem?_eq_getElem h]

/-- What the document's answer holds behind j bytes of L. -/
def hx (zs : List Int) (j : Nat) : Int := SA (zs.take j) % 65536
def hy (L : Nat) (zs : List Int) (j : Nat) : Int := SW L (zs.take j) % 65536

theorem hx_range (zs : List Int) (j : Nat) : 0 ≤ hx zs j ∧ hx zs j < 65536 := by unfold hx; omega
theorem hy_range (L : Nat) (zs : List Int) (j : Nat) : 0 ≤ hy L zs j ∧ hy L zs j < 65536 := by unfold hy; omega
theorem hx_succ (zs : List Int) (j : Nat) (h : j < zs.length) : hx zs (j + 1) = (hx zs j + zs.getD j 0) % 65536 := by
  unfold hx; rw [take_next zs j h, SA_snoc]; omega
theorem hy_succ (L : Nat) (zs : List Int) (j : Nat) (h : j < zs.length) (hL : j ≤ L) : hy L zs (j + 1) = (hy L zs j + (((L - j : Nat) : Int) % 65536) * zs.getD j 0) % 65536 := by
  unfold hy
  rw [take_next zs j h, SW_snoc, List.length_take, Nat.min_eq_left (by omega), show (L : Int) - (j : Nat) = ((L - j : Nat) : Int) by omega]
  generalize ((L - j : Nat) : Int) = m
  generalize zs.getD j 0 = z
  obtain ⟨q, hq⟩ : ∃ q, m * z = (m % 65536) * z + 65536 * q := ⟨(m / 65536) * z, by
    rw [← Int.mul_assoc, ← Int.add_mul, Int.add_comm, Int.mul_ediv_add_emod]⟩
  rw [hq]
  generalize (m % 65536) * z = u
  omega
theorem hx_all (zs : List Int) (L : Nat) (h : L = zs.length) : hx zs L = pa zs := by unfold hx pa; rw [h, List.take_length]
theorem hy_all (zs : List Int) (L : Nat) (h : L = zs.length) : hy L zs L = pb zs := by unfold hy pb; rw [h, List.take_length, SB_SW]
end Go.Proofs.YtgnampbbkaolmaaDoor.Ro
namespace Go.Proofs.YtgnampbbkaolmaaDoor.Ro
open Go.RowKit
set_option maxRecDepth 100000

theorem cv_float (x : Int) (w : World) (hx : x.natAbs < 2 ^ 53) : (convert 141 2 (.float .f64 (fl x))).run Tryd.prog w = .ok (.int .i64 x) w :=
  run_convert_float_int w 141 2 .f64 .i64 (fl x) x (by kernel_rfl) Tryd.underlying2 (int_fl x hx)

set_option maxHeartbeats 1000000 in
theorem rem_any (x : Int) (w : World) (hx : x.natAbs < 2 ^ 53) :
    Calls Tryd.prog 93 #[.float .f64 (fl x)] w fun e w' => e = .returned (.int .i64 (x % 65536)) ∧ w' = w := by
  have hc := cv_float x w hx
  have ha := i64_and65535 x
  clear hx
  go_enter Tryd.func93, Tryd.ntmps93
  go_wp2
  go_ret
  exact ⟨rfl, rfl⟩

set_option maxHeartbeats 1000000 in
theorem reduced_any (x y : Int) (w : World) (hx : x.natAbs < 2 ^ 53) (hy : y.natAbs < 2 ^ 53) :
    Calls Tryd.prog 94 #[.complex .f64 (fl x) (fl y)] w fun e w' => e = .returned (.complex .f64 (fl (x % 65536)) (fl (y % 65536))) ∧ w' = w := by
  have c1 := rem_any x w hx
  have c2 := rem_any y w hy
  clear hx hy
  generalize hX : x % 65536 = X at *
  generalize hY : y % 65536 = Y at *
  clear hX hY
  have e1 : floatOfInt .f64 X = fl X := rfl
  have e2 : floatOfInt .f64 Y = fl Y := rfl
  go_enter Tryd.func94, Tryd.ntmps94
  go_wp2_with fail
  refine c1.mono ?_
  rintro e w1 ⟨rfl, rfl⟩
  clear c1
  go_wp2_with fail
  refine c2.mono ?_
  rintro e w1 ⟨rfl, rfl⟩
  clear c2
  go_wp2_with fail
  go_ret
  exact ⟨rfl, rfl⟩

set_option maxHeartbeats 1000000 in
theorem counted_any (c n : Int) (w : World) (hc : 0 ≤ c) (hc2 : c < 256) (hn : 0 ≤ n) (hn2 : n ≤ 1099511627776) :
    Calls Tryd.prog 95 #[.int .u8 c, .int .i64 n] w fun e w' => e = .returned (.complex .f64 (fl c) (fl (n * c))) ∧ w' = w := by
  have hm0 := Int.mul_nonneg hn hc
  have hm1 : n * c ≤ 1099511627776 * 256 := Int.mul_le_mul hn2 (by omega) hc (by decide)
  have hm := run_float_arith (P := Tryd.prog) w .mul 141 .f64 (fl n) (fl c) (fl (n * c)) (mul_fl n c (by omega) (by omega) hn hc (by omega))
  have e1 : floatOfInt .f64 c = fl c := rfl
  have e2 : floatOfInt .f64 n = fl n := rfl
  clear hm0 hm1
  go_enter Tryd.func95, Tryd.ntmps95
  go_wp2
  go_ret
  exact ⟨rfl, rfl⟩

set_option maxHeartbeats 1000000 in
theorem with_any (a b c : Int) (w : World) (ha : 0 ≤ a ∧ a < 65536) (hb : 0 ≤ b ∧ b < 65536) (hc : 0 ≤ c ∧ c < 256) :
    Calls Tryd.prog 81 #[.complex .f64 (fl a) (fl b), .int .u8 c] w fun e w' => e = .returned (.complex .f64 (fl ((a + c) % 65536)) (fl ((b + a + c) % 65536))) ∧ w' = w := by
  have c1 := counted_any c 1 w hc.1 hc.2 (by decide) (by decide)
  rw [Int.one_mul] at c1
  have s1 := run_complex_sum (P := Tryd.prog) w .add (.inl rfl) 111 .f64 (fl a) (fl b) 0 (fl a) (fl a) (fl (b + a)) (by
    unfold cSumBits
    have h1 := add_fl a 0 (by omega) (by decide) (by omega)
    rw [fl_zero, Int.add_zero] at h1
    rw [h1, add_fl b a (by omega) (by omega) (by omega)]; rfl)
  have s2 := run_complex_sum (P := Tryd.prog) w .add (.inl rfl) 111 .f64 (fl a) (fl (b + a)) (fl c) (fl c) (fl (a + c)) (fl (b + a + c)) (by
    unfold cSumBits
    rw [add_fl a c (by omega) (by omega) (by omega), add_fl (b + a) c (by omega) (by omega) (by omega)]; rfl)
  have c2 := reduced_any (a + c) (b + a + c) w (by omega) (by omega)
  generalize (a + c) % 65536 = A at *
  generalize (b + a + c) % 65536 = B at *
  generalize fl (a + c) = u at *
  generalize fl (b + a + c) = v at *
  generalize fl (b + a) = x at *
  clear ha hb hc
  go_enter Tryd.func81, Tryd.ntmps81
  go_wp2_with fail
  refine c1.mono ?_
  rintro e w1 ⟨rfl, rfl⟩
  clear c1
  go_wp2_with fail
  refine c2.mono ?_
  rintro e w1 ⟨rfl, rfl⟩
  clear c2
  go_wp2_with fail
  go_ret
  exact ⟨rfl, rfl⟩

set_option maxHeartbeats 1000000 in
theorem without_any (a b c n : Int) (w : World) (ha : 0 ≤ a ∧ a < 65536) (hb : 0 ≤ b ∧ b < 65536) (hc : 0 ≤ c ∧ c < 256) (hn : 0 ≤ n) (hn2 : n ≤ 1099511627776) :
    Calls Tryd.prog 83 #[.complex .f64 (fl a) (fl b), .int .u8 c, .int .i64 n] w fun e w' => e = .returned (.complex .f64 (fl ((a - c) % 65536)) (fl ((b - n * c) % 65536))) ∧ w' = w := by
  have hm0 := Int.mul_nonneg hn hc.1
  have hm1 : n * c ≤ 1099511627776 * 256 := Int.mul_le_mul hn2 (by omega) hc.1 (by decide)
  have c1 := counted_any c n w hc.1 hc.2 hn hn2
  have s2 := run_complex_sum (P := Tryd.prog) w .sub (.inr rfl) 111 .f64 (fl a) (fl b) (fl c) (fl (n * c)) (fl (a - c)) (fl (b - n * c)) (by
    unfold cSumBits
    rw [sub_fl a c (by omega) (by omega) (by omega), sub_fl b (n * c) (by omega) (by omega) (by omega)]; rfl)
  have c2 := reduced_any (a - c) (b - n * c) w (by omega) (by omega)
  generalize (a - c) % 65536 = A at *
  generalize (b - n * c) % 65536 = B at *
  generalize fl (a - c) = u at *
  generalize fl (b - n * c) = v at *
  generalize fl (n * c) = x at *
  clear ha hb hc hn hn2 hm0 hm1
  go_enter Tryd.func83, Tryd.ntmps83
  go_wp2_with fail
  refine c1.mono ?_
  rintro e w1 ⟨rfl, rfl⟩
  clear c1
  go_wp2_with fail
  refine c2.mono ?_
  rintro e w1 ⟨rfl, rfl⟩
  clear c2
  go_wp2_with fail
  go_ret
  exact ⟨rfl, rfl⟩

end Go.Proofs.YtgnampbbkaolmaaDoor.Ro
namespace Go.Proofs.YtgnampbbkaolmaaDoor.Ro
open Go.RowKit
set_option maxRecDepth 100000

set_option maxHeartbeats 1000000 in
theorem pair_any (v : Value) (xs : List Int) (w : World) (sl : Sl w v xs) :
    Calls Tryd.prog 66 #[v] w fun e w' => e = .returned (.complex .f64 (fl (pa xs)) (fl (pb xs))) ∧ w' = w := by
  have hbd := sl.bytes
  obtain ⟨a, cap, rfl, h1, h2, h3, h4⟩ := sl
  have hL : xs.length ≤ 9223372036854775807 := by unfold maxLen at h2; omega
  have HN : Hid (∀ j, j < xs.length → pa (xs.take (j + 1)) = (pa (xs.take j) + xs.getD j 0) % 65536 ∧ pb (xs.take (j + 1)) = (pb (xs.take j) + pa (xs.take j) + xs.getD j 0) % 65536) := fun j hj => by
    rw [take_next xs j hj, pa_snoc, pb_snoc]; exact ⟨rfl, rfl⟩
  have HE : Hid (∀ j, j = xs.length → xs.take j = xs) := fun j hj => by rw [hj, List.take_length]
  have HB : Hid (∀ i, 0 ≤ xs.getD i 0 ∧ xs.getD i 0 < 256) := hbd
  have H4 : Hid (Row w a xs.length cap xs) := h4
  clear hbd h4 h3 h2
  generalize hX : xs.length = L at *
  clear hX
  go_enter Tryd.func66, Tryd.ntmps66
  go_wp2
  go_loop [3, 8] (fun r i => ∃ j : Nat, j ≤ L ∧ i = .int .i64 j ∧ r = .complex .f64 (fl (pa (xs.take j))) (fl (pb (xs.take j)))) (fun _ i => L - (intOf i).toNat)
  case atStart => exact ⟨0, by omega, rfl, by rw [List.take_zero, pa_nil, pb_nil, fl_zero]⟩
  case round =>
    obtain ⟨j, hj, rfl, rfl⟩ := hrel
    by_cases hlt : j < L
    · rcases H4.out with h0 | ⟨hp, b, off, rfl, hlc, hm, hcell, hz⟩
      · omega
      · have hcj := hcell j hlt
        have c1 := with_any (pa (xs.take j)) (pb (xs.take j)) (xs.getD j 0) w (pa_range _) (pb_range _) (HB.out j)
        rw [← (HN.out j hlt).1, ← (HN.out j hlt).2] at c1
        obtain ⟨A, hA⟩ : ∃ A, A = fl (pa (xs.take j)) := ⟨_, rfl⟩
        obtain ⟨B, hB⟩ : ∃ B, B = fl (pb (xs.take j)) := ⟨_, rfl⟩
        obtain ⟨A', hA'⟩ : ∃ A', A' = fl (pa (xs.take (j + 1))) := ⟨_, rfl⟩
        obtain ⟨B', hB'⟩ : ∃ B', B' = fl (pb (xs.take (j + 1))) := ⟨_, rfl⟩
        rw [← hA, ← hB, ← hA', ← hB'] at c1
        rw [← hA, ← hB]
        have HA : Hid (A' = fl (pa (xs.take (j + 1)))) := hA'
        have HB' : Hid (B' = fl (pb (xs.take (j + 1)))) := hB'
        clear hcell hz hA hB hA' hB'
        generalize xs.getD j 0 = z at *
        go_wp2_with fail
        refine c1.mono ?_
        rintro e w1 ⟨rfl, e1⟩
        subst e1
        clear c1
        go_wp2
        go_round
        case rel => exact ⟨j + 1, by omega, by go_num, by rw [HA.out, HB'.out]⟩
        case measure => simp [intOf]; omega
    · obtain rfl : j = L := by omega
      have hE := HE.out j rfl
      rw [hE]
      clear hE
      go_wp2
      go_ret
      exact ⟨rfl, rfl⟩

theorem cmp_lt {x y : Int} (h : x < y) : compare x y = .lt := by simp [compare, compareOfLessAndEq, h]
theorem cmp_gt {x y : Int} (h : y < x) : compare x y = .gt := by simp [compare, compareOfLessAndEq, show ¬ x < y by omega, show ¬ x = y by omega]
theorem cmp_eq (x : Int) : compare x x = .eq := by simp [compare, compareOfLessAndEq]

theorem lo_order (x : Int) (o : Ordering) (hx : x.natAbs < 2 ^ 53) (h : compare x (-1125899906842624) = o) : FloatKind.f64.format.order (fl x) 14055734437023318016 = some o := by
  rw [fl_lo, order_fl x _ hx (by decide), h]
theorem hi_order (x : Int) (o : Ordering) (hx : x.natAbs < 2 ^ 53) (h : compare x 1125899906842624 = o) : FloatKind.f64.format.order (fl x) 4832362400168542208 = some o := by
  rw [fl_hi, order_fl x _ hx (by decide), h]

set_option maxHeartbeats 1000000 in
theorem whole_any (x : Int) (w : World) (hx : x.natAbs < 2 ^ 53) :
    Calls Tryd.prog 92 #[.float .f64 (fl x)] w fun e w' => e = .returned (.bool (decide (-1125899906842624 ≤ x ∧ x ≤ 1125899906842624))) ∧ w' = w := by
  have hc := cv_float x w hx
  have ee : floatOfInt .f64 x = fl x := rfl
  have hself : FloatKind.f64.format.order (fl x) (fl x) = some .eq := by rw [order_fl x x hx hx, cmp_eq]
  by_cases h1 : x < -1125899906842624
  · have l1 := lo_order x _ hx (cmp_lt h1)
    rw [decide_eq_false (by omega)]
    clear hx h1
    go_enter Tryd.func92, Tryd.ntmps92
    go_wp2
    go_ret
    exact ⟨rfl, rfl⟩
  · by_cases h2 : 1125899906842624 < x
    · have l1 := lo_order x _ hx (cmp_gt (show -1125899906842624 < x by omega))
      have l2 := hi_order x _ hx (cmp_gt h2)
      rw [decide_eq_false (by omega)]
      clear hx h1 h2
      go_enter Tryd.func92, Tryd.ntmps92
      go_wp2
      go_ret
      exact ⟨rfl, rfl⟩
    · rw [decide_eq_true (by omega)]
      obtain ⟨o1, l1, k1⟩ : ∃ o1, FloatKind.f64.format.order (fl x) 14055734437023318016 = some o1 ∧ (o1 = .gt ∨ o1 = .eq) := by
        by_cases e : x = -1125899906842624
        · exact ⟨_, lo_order x _ hx (by rw [e]; exact cmp_eq _), .inr rfl⟩
        · exact ⟨_, lo_order x _ hx (cmp_gt (by omega)), .inl rfl⟩
      obtain ⟨o2, l2, k2⟩ : ∃ o2, FloatKind.f64.format.order (fl x) 4832362400168542208 = some o2 ∧ (o2 = .lt ∨ o2 = .eq) := by
        by_cases e : x = 1125899906842624
        · exact ⟨_, hi_order x _ hx (by rw [e]; exact cmp_eq _), .inr rfl⟩
        · exact ⟨_, hi_order x _ hx (cmp_lt (by omega)), .inl rfl⟩
      clear hx h1 h2
      rcases k1 with rfl | rfl <;> rcases k2 with rfl | rfl
      all_goals
        go_enter Tryd.func92, Tryd.ntmps92
        go_wp2
        go_ret
        exact ⟨rfl, rfl⟩

set_option maxHeartbeats 1000000 in
theorem whole_half (w : World) :
    Calls Tryd.prog 92 #[.float .f64 4602678819172646912] w fun e w' => e = .returned (.bool false) ∧ w' = w := by
  have hc := run_convert_float_int (P := Tryd.prog) w 141 2 .f64 .i64 4602678819172646912 0 (by kernel_rfl) Tryd.underlying2 (by decide)
  have e0 : floatOfInt .f64 0 = 0 := by decide
  have l1 : FloatKind.f64.format.order 4602678819172646912 14055734437023318016 = some .gt := by decide
  have l2 : FloatKind.f64.format.order 4602678819172646912 4832362400168542208 = some .lt := by decide
  have l3 : FloatKind.f64.format.order 4602678819172646912 0 = some .gt := by decide
  go_enter Tryd.func92, Tryd.ntmps92
  go_wp2
  go_ret
  exact ⟨rfl, rfl⟩

/-- What Pack answers. -/
def pk (x y : Int) : Int := if (-1125899906842624 ≤ x ∧ x ≤ 1125899906842624) ∧ (-1125899906842624 ≤ y ∧ y ≤ 1125899906842624) then y % 65536 * 65536 + x % 65536 else 0

set_option maxHeartbeats 1000000 in
theorem pack_any (x y : Int) (w : World) (hx : x.natAbs < 2 ^ 53) (hy : y.natAbs < 2 ^ 53) :
    Calls Tryd.prog 80 #[.complex .f64 (fl x) (fl y)] w fun e w' => e = .returned (.int .u32 (pk x y)) ∧ w' = w := by
  have c1 := whole_any x w hx
  have c2 := whole_any y w hy
  have r1 := rem_any x w hx
  have r2 := rem_any y w hy
  unfold pk
  have hX0 : 0 ≤ x % 65536 := by omega
  have hX1 : x % 65536 < 65536 := by omega
  have hY0 : 0 ≤ y % 65536 := by omega
  have hY1 : y % 65536 < 65536 := by omega
  generalize x % 65536 = X at *
  generalize y % 65536 = Y at *
  by_cases h1 : -1125899906842624 ≤ x ∧ x ≤ 1125899906842624
  · rw [decide_eq_true h1] at c1
    by_cases h2 : -1125899906842624 ≤ y ∧ y ≤ 1125899906842624
    · rw [decide_eq_true h2] at c2
      rw [if_pos ⟨h1, h2⟩]
      clear h1 h2 hx hy
      generalize fl x = fx at *
      generalize fl y = fy at *
      go_enter Tryd.func80, Tryd.ntmps80
      go_wp2_with fail
      refine c1.mono ?_
      rintro e w1 ⟨rfl, rfl⟩
      clear c1
      go_wp2_with fail
      refine c2.mono ?_
      rintro e w1 ⟨rfl, rfl⟩
      clear c2
      go_wp2_with fail
      refine r2.mono ?_
      rintro e w1 ⟨rfl, rfl⟩
      clear r2
      go_wp2_with fail
      refine r1.mono ?_
      rintro e w1 ⟨rfl, rfl⟩
      clear r1
      go_wp2_with fail
      go_ret
      exact ⟨by go_num, rfl⟩
    · rw [decide_eq_false h2] at c2
      rw [if_neg (fun h => h2 h.2)]
      clear h1 h2 hx hy r1 r2 hX0 hX1 hY0 hY1
      generalize fl x = fx at *
      generalize fl y = fy at *
      go_enter Tryd.func80, Tryd.ntmps80
      go_wp2_with fail
      refine c1.mono ?_
      rintro e w1 ⟨rfl, rfl⟩
      clear c1
      go_wp2_with fail
      refine c2.mono ?_
      rintro e w1 ⟨rfl, rfl⟩
      clear c2
      go_wp2_with fail
      go_ret
      exact ⟨rfl, rfl⟩
  · rw [decide_eq_false h1] at c1
    rw [if_neg (fun h => h1 h.1)]
    clear h1 hx hy r1 r2 c2 hX0 hX1 hY0 hY1
    generalize fl x = fx at *
    generalize fl y = fy at *
    go_enter Tryd.func80, Tryd.ntmps80
    go_wp2_with fail
    refine c1.mono ?_
    rintro e w1 ⟨rfl, rfl⟩
    clear c1
    go_wp2_with fail
    go_ret
    exact ⟨rfl, rfl⟩

set_option maxHeartbeats 1000000 in
theorem pack_half (u : Nat) (w : World) :
    Calls Tryd.prog 80 #[.complex .f64 4602678819172646912 u] w fun e w' => e = .returned (.int .u32 0) ∧ w' = w := by
  have c1 := whole_half w
  go_enter Tryd.func80, Tryd.ntmps80
  go_wp2_with fail
  refine c1.mono ?_
  rintro e w1 ⟨rfl, rfl⟩
  clear c1
  go_wp2_with fail
  go_ret
  exact ⟨rfl, rfl⟩

theorem pk_pair (xs : List Int) : pk (pa xs) (pb xs) = rs xs := by
  have h1 := pa_range xs
  have h2 := pb_range xs
  unfold pk rs
  rw [if_pos (by omega)]
  omega

theorem packp_any (xs : List Int) (w : World) : Calls Tryd.prog 80 #[.complex .f64 (fl (pa xs)) (fl (pb xs))] w fun e w' => e = .returned (.int .u32 (rs xs)) ∧ w' = w := by
  have h1 := pa_range xs
  have h2 := pb_range xs
  have := pack_any (pa xs) (pb xs) w (by omega) (by omega)
  rwa [pk_pair] at this

set_option maxHeartbeats 1000000 in
theorem sum_any (v : Value) (xs : List Int) (w : World) (sl : Sl w v xs) :
    Calls Tryd.prog 64 #[v] w fun e w' => e = .returned (.int .u32 (rs xs)) ∧ w' = w := by
  have c1 := pair_any v xs w sl
  have c2 := packp_any xs w
  generalize fl (pa xs) = A at *
  generalize fl (pb xs) = B at *
  generalize rs xs = r at *
  clear sl
  go_enter Tryd.func64, Tryd.ntmps64
  go_wp2_with fail
  refine c1.mono ?_
  rintro e w1 ⟨rfl, rfl⟩
  clear c1
  go_wp2_with fail
  refine c2.mono ?_
  rintro e w1 ⟨rfl, rfl⟩
  clear c2
  go_wp2_with fail
  go_ret
  exact ⟨rfl, rfl⟩

end Go.Proofs.YtgnampbbkaolmaaDoor.Ro
namespace Go.Proofs.YtgnampbbkaolmaaDoor.Ro
open Go.RowKit
set_option maxRecDepth 100000

theorem tmod_nn (a : Int) (h : 0 ≤ a) : Int.tmod a 65536 = a % 65536 := Int.tmod_eq_emod_of_nonneg h

theorem tmod_neg (x : Int) (h : Int.tmod x 65536 < 0) : Int.tmod x 65536 + 65536 = x % 65536 := by
  have := Int.tmod_eq_emod (a := x) (b := 65536)
  split at this <;> omega
theorem tmod_pos (x : Int) (h : ¬ Int.tmod x 65536 < 0) : Int.tmod x 65536 = x % 65536 := by
  have := Int.tmod_eq_emod (a := x) (b := 65536)
  split at this <;> omega
theorem tmod_b (x : Int) : -65536 < Int.tmod x 65536 ∧ Int.tmod x 65536 < 65536 := by
  have := Int.tmod_eq_emod (a := x) (b := 65536)
  split at this <;> omega

end Go.Proofs.YtgnampbbkaolmaaDoor.Ro
namespace Go.Proofs.YtgnampbbkaolmaaDoor.Ro
open Go.RowKit
set_option maxRecDepth 100000

theorem _root_.Go.Proofs.YtgnampbbkaolmaaDoor.Sl.set {w : World} {b off L cap : Nat} {Y : List Int} (h : Sl w (.slice (some ⟨b, off, Option.none⟩) L cap) Y) (m : Nat) (hm : m < L) (z : Int) (hz : 0 ≤ z ∧ z < 256) :
    Sl (w.setCell ⟨b, off + m, Option.none⟩ (.int .u8 z)) (.slice (some ⟨b, off, Option.none⟩) L cap) (Y.set m z) := by
  obtain ⟨a', cap', e, h1, h2, h3, h4⟩ := h
  cases e
  have hl : (Y.set m z).length = Y.length := List.length_set ..
  refine ⟨_, cap, by rw [hl], by rw [hl]; exact h1, h2, fun e => (by cases e), ?_⟩
  rw [hl]
  rcases h4 with h | ⟨hp, b', off', e, hlc, hmx, hc, hz'⟩
  · omega
  · cases e
    refine .inr ⟨hp, b, off, rfl, hlc, hmx, fun i hi => ?_, fun i => ?_⟩
    · by_cases him : i = m
      · subst him
        rw [World.cell?_setCell_same _ _ _ (hc i hi)]
        simp [List.getD, hi]
      · rw [World.cell?_setCell_other _ _ _ _ (by intro e; simp at e), hc i hi]
        simp [List.getD, List.getElem?_set_ne (Ne.symm him)]
    · by_cases him : m = i
      · subst him
        simpa [List.getD, List.getElem?_set_self hm] using hz
      · have := hz' i
        simpa [List.getD, List.getElem?_set_ne him] using this

theorem own_empty (w : World) : (w.alloc (.cells #[] 5)).ownsRow w.heap.size 5 1 (.slice (some ⟨w.heap.size, 0, none⟩) 0 0) 0 [] :=
  World.ownsRow_made (base := w.heap.size) (e := 5) (size := 1) w #[] 0 (Nat.le_refl _) (by unfold maxLen; omega) rfl

theorem own_tag {w : World} {B x : Nat} {e : TypeId} {size n : Nat} {v : Value} {xs : List Value} (h : w.ownsRow B e size v n xs) (hx : v.ownBlock = some x) : ∃ cur, w.heap[x]? = some (.cells cur e (0, 0)) := by
  rcases h.2 with ⟨rfl, _⟩ | ⟨g, cap, cur, rfl, _, hh, _⟩
  · cases hx
  · cases hx; exact ⟨cur, hh⟩

theorem sl_one (w : World) (z : Int) (h0 : 0 ≤ z) (h1 : z < 256) : Sl (w.alloc (.cells #[.int .u8 z] 5)) (.slice (some ⟨w.heap.size, 0, none⟩) 1 1) [z] := by
  refine ⟨_, 1, rfl, by simp, by simp [maxLen], (fun e => by cases e), .inr ⟨by simp, w.heap.size, 0, rfl, by simp, by simp [maxLen], fun i hi => ?_, byteList _ (by simp; omega)⟩⟩
  obtain rfl : i = 0 := by simpa using hi
  rw [cell_of_row _ _ _ _ _ _ (heap_alloc_new _ _)]
  rfl

theorem isnil (w : World) : (binOp BinOp.eql 22 (.slice none 0 0) (.slice none 0 0)).run Tryd.prog w = .ok (.bool true) w := by kernel_rfl
theorem notnil (x : Addr) (n c : Nat) (w : World) : (binOp BinOp.eql 22 (.slice (some x) n c) (.slice none 0 0)).run Tryd.prog w = .ok (.bool false) w := by kernel_rfl

set_option maxHeartbeats 1000000 in
/-- What bytes.Clone answers: a slice of its own of the same bytes, nil for nil. -/
theorem clone_any (v : Value) (xs : List Int) (w : World) (h : Sl w v xs) (hbig : xs.length ≤ 200000000000000) :
    Calls Tryd.prog 33 #[v] w fun r w' => ∃ v', r = .returned v' ∧ w'.ownsRow w.heap.size 5 1 v' xs.length (xs.map (Value.int .u8)) ∧ Below w.heap.size w w' := by
  obtain ⟨i0, hi, hz0, hz1, hz2⟩ := info_parts info5'
  obtain ⟨a, cap, rfl, h1, h2, h3, h4⟩ := h
  cases a with
  | none =>
    obtain rfl := h3 rfl
    obtain rfl : xs = [] := List.length_eq_zero_iff.1 (by omega)
    clear h1 h2 h3 h4 hbig
    have hnil := isnil w
    go_enter Tryd.func33, Tryd.ntmps33
    go_wp2
    go_ret
    exact ⟨_, rfl, World.ownsRow_nil _ _ _ _, Below.refl _ _⟩
  | some x =>
    have hown0 : (w.alloc (.cells #[] 5)).ownsRow w.heap.size 5 1 (.slice (some ⟨w.heap.size, 0, none⟩) 0 0) 0 [] := World.ownsRow_made (base := w.heap.size) (e := 5) (size := 1) w #[] 0 (Nat.le_refl _) (by unfold maxLen; omega) rfl
    have hb0 : Below w.heap.size w (w.alloc (.cells #[] 5)) := (Below.refl _ _).alloc (Nat.le_refl _) _
    have hnews := news_row (h4.kept hb0)
    obtain ⟨L, hL⟩ : ∃ L, L = xs.length := ⟨_, rfl⟩
    have HL : Hid (L = xs.length) := hL
    rw [← hL] at hbig h1 ⊢
    clear h3 h4 hL h2
    have hnil := notnil x L cap w
    go_enter Tryd.func33, Tryd.ntmps33
    go_wp2_with (at_builtin; refine wpList_append_own_wide _ rfl _ _ 22 rfl w.heap.size 5 i0 (.int .u8 0) 1 1 Tryd.underlying22 hi hz0 hz1 hz2 rfl (by decide) _ 0 [] rfl hown0 x L cap (xs.map (Value.int .u8)) rfl (by rw [List.length_map, HL.out, Nat.mul_one]) hnews (ints_one xs) (by unfold maxLen; omega) (by omega) (by simp) ?_)
    intro v' w2 hown' hgrow _
    have hbel' : Below w.heap.size w w2 := hb0.grown hgrow (by simp) (own_base hown0)
    try simp only [Nat.zero_add, List.nil_append] at hown'
    clear hown0 hgrow hb0 hnews
    go_wp2
    go_ret
    exact ⟨_, rfl, hown', hbel'⟩

end Go.Proofs.YtgnampbbkaolmaaDoor.Ro
namespace Go.Proofs.YtgnampbbkaolmaaDoor.Ro
open Go.RowKit
set_option maxRecDepth 100000

/-- The window at block g has the row hv of the bytes hs, of which the first ones are gone: zs are left; the row lies in a block of its own, from base on. -/
def WinR (w : World) (base g : Nat) (hv : Value) (hs : List Int) (gone : Nat) (zs : List Int) : Prop :=
  base ≤ g ∧ zs = hs.drop gone ∧ gone + zs.length = hs.length ∧ (∀ i, 0 ≤ hs.getD i 0 ∧ hs.getD i 0 < 256) ∧
    w.ownsRow base 5 1 hv hs.length (hs.map (Value.int .u8)) ∧ w.heap[g]? = some (.cells #[.complex .f64 (fl (pa zs)) (fl (pb zs)), hv, .int .i64 gone] 114 (0, 0))
/-- The window at block g has the bytes zs. -/
def Win (w : World) (base g : Nat) (hv : Value) (zs : List Int) : Prop := ∃ (hs : List Int) (gone : Nat), WinR w base g hv hs gone zs ∧ gone ≤ zs.length

theorem WinR.lt {w : World} {base g : Nat} {hv : Value} {hs : List Int} {gone : Nat} {zs : List Int} (h : WinR w base g hv hs gone zs) : g < w.heap.size := by
  obtain ⟨_, _, _, _, _, hh⟩ := h
  exact (Array.getElem?_eq_some_iff.1 hh).1
theorem Win.lt {w : World} {base g : Nat} {hv : Value} {zs : List Int} (h : Win w base g hv zs) : g < w.heap.size := by
  obtain ⟨_, _, h, _⟩ := h
  exact h.lt

theorem WinR.kept {w w' : World} {base g : Nat} {hv : Value} {hs : List Int} {gone : Nat} {zs : List Int} (h : WinR w base g hv hs gone zs) (hb : Below w.heap.size w w') : WinR w' base g hv hs gone zs := by
  have hg := h.lt
  obtain ⟨h1, h2, h3, h5, h6, hh⟩ := h
  exact ⟨h1, h2, h3, h5, own_below h6 hb, (hb.block g hg).trans hh⟩
theorem Win.kept {w w' : World} {base g : Nat} {hv : Value} {zs : List Int} (h : Win w base g hv zs) (hb : Below w.heap.size w w') : Win w' base g hv zs := by
  obtain ⟨hs, gone, h, h4⟩ := h
  exact ⟨hs, gone, h.kept hb, h4⟩

theorem WinR.bytes {w : World} {base g : Nat} {hv : Value} {hs : List Int} {gone : Nat} {zs : List Int} (h : WinR w base g hv hs gone zs) : ∀ i, 0 ≤ zs.getD i 0 ∧ zs.getD i 0 < 256 := by
  obtain ⟨h1, rfl, h3, h5, h6, hh⟩ := h
  exact bytes_drop hs gone h5
theorem Win.bytes {w : World} {base g : Nat} {hv : Value} {zs : List Int} (h : Win w base g hv zs) : ∀ i, 0 ≤ zs.getD i 0 ∧ zs.getD i 0 < 256 := by
  obtain ⟨hs, gone, h, h4⟩ := h
  exact h.bytes

set_option maxHeartbeats 1000000 in
theorem wnew_any (v : Value) (xs : List Int) (w : World) (sl : Sl w v xs) (hbig : xs.length ≤ 1000000) :
    Calls Tryd.prog 49 #[v] w fun e w' => ∃ g hv, e = .returned (.pointer (some ⟨g, 0, none⟩)) ∧ Win w' w.heap.size g hv xs ∧ Below w.heap.size w w' := by
  have c1 := pair_any v xs w sl
  have c2 := clone_any v xs w sl (by omega)
  have hb := sl.bytes
  have HB : Hid (∀ i, 0 ≤ xs.getD i 0 ∧ xs.getD i 0 < 256) := hb
  clear hb sl hbig
  obtain ⟨A, hA⟩ : ∃ A, A = fl (pa xs) := ⟨_, rfl⟩
  obtain ⟨B, hB⟩ : ∃ B, B = fl (pb xs) := ⟨_, rfl⟩
  have HA : Hid (fl (pa xs) = A) := hA.symm
  have HB' : Hid (fl (pb xs) = B) := hB.symm
  rw [← hA, ← hB] at c1
  clear hA hB
  go_enter Tryd.func49, Tryd.ntmps49
  go_wp2_with fail
  refine c1.mono ?_
  rintro e w1 ⟨rfl, rfl⟩
  clear c1
  go_wp2_with fail
  refine c2.mono ?_
  rintro e w2 ⟨hv, rfl, own, bel⟩
  clear c2
  have HO : Hid (w2.ownsRow w1.heap.size 5 1 hv xs.length (xs.map (Value.int .u8))) := own
  obtain ⟨a, cap, rfl, _⟩ := sl_owned own HB.out
  clear own
  obtain ⟨L, hL⟩ : ∃ L, L = xs.length := ⟨_, rfl⟩
  rw [← hL] at HO
  have HL : Hid (L = xs.length) := hL
  rw [← hL]
  clear hL
  go_wp2_with fail
  go_ret
  refine ⟨_, .slice a L cap, rfl, ⟨xs, 0, ⟨bel.size, rfl, by simp, HB.out, ?_, ?_⟩, by simp⟩, bel.trans ((Below.refl _ _).alloc bel.size _)⟩
  · rw [← HL.out]
    exact own_below HO.out ((Below.refl _ _).alloc (Nat.le_refl _) _)
  · rw [HA.out, HB'.out]
    exact heap_alloc_new _ _

set_option maxHeartbeats 1000000 in
theorem wlen_nil (w : World) : Calls Tryd.prog 82 #[.pointer none] w fun e w' => e = .returned (.int .i64 0) ∧ w' = w := by
  go_enter Tryd.func82, Tryd.ntmps82
  go_wp2
  go_ret
  exact ⟨rfl, rfl⟩
set_option maxHeartbeats 1000000 in
theorem wsum_nil (w : World) : Calls Tryd.prog 67 #[.pointer none] w fun e w' => e = .returned (.int .u32 0) ∧ w' = w := by
  go_enter Tryd.func67, Tryd.ntmps67
  go_wp2
  go_ret
  exact ⟨rfl, rfl⟩
set_option maxHeartbeats 1000000 in
theorem wbytes_nil (w : World) : Calls Tryd.prog 96 #[.pointer none] w fun e w' => e = .returned (.slice none 0 0) ∧ w' = w := by
  go_enter Tryd.func96, Tryd.ntmps96
  go_wp2
  go_ret
  exact ⟨rfl, rfl⟩
set_option maxHeartbeats 1000000 in
theorem win_nil (c : Int) (w : World) : Calls Tryd.prog 70 #[.pointer none, .int .u8 c] w fun e w' => e = .returned (.tuple #[]) ∧ w' = w := by
  go_enter Tryd.func70, Tryd.ntmps70
  go_wp2
  (try simp only [Exit.inBlock, Exit.then]); refine bodyPost_ret (results_none rfl _ _ _) rfl ?_
  exact ⟨rfl, rfl⟩
set_option maxHeartbeats 1000000 in
theorem wout_nil (w : World) : Calls Tryd.prog 69 #[.pointer none] w fun e w' => e = .returned (.tuple #[.int .u8 0, .bool false]) ∧ w' = w := by
  have c := wlen_nil w
  go_enter Tryd.func69, Tryd.ntmps69
  go_wp2_with fail
  refine c.mono ?_
  rintro e w1 ⟨rfl, rfl⟩
  clear c
  go_wp2_with fail
  go_ret2
  exact ⟨rfl, rfl⟩
set_option maxHeartbeats 1000000 in
theorem wroll_nil (c : Int) (w : World) : Calls Tryd.prog 52 #[.pointer none, .int .u8 c] w fun e w' => e = .returned (.bool false) ∧ w' = w := by
  have c := wout_nil w
  go_enter Tryd.func52, Tryd.ntmps52
  go_wp2_with fail
  refine c.mono ?_
  rintro e w1 ⟨rfl, rfl⟩
  clear c
  go_wp2_with fail
  go_ret
  exact ⟨rfl, rfl⟩

/-- What the walks read of a window. -/
theorem WinR.cells {w : World} {base g : Nat} {hv : Value} {hs : List Int} {gone : Nat} {zs : List Int} (h : WinR w base g hv hs gone zs) : ∃ (a : Option Addr) (cap : Nat), hv = .slice a hs.length cap ∧ zs = hs.drop gone ∧ gone + zs.length = hs.length ∧
    w.cell? ⟨g, 0, none⟩ = some (.complex .f64 (fl (pa zs)) (fl (pb zs))) ∧ w.cell? ⟨g, 1, none⟩ = some hv ∧ w.cell? ⟨g, 2, none⟩ = some (.int .i64 gone) ∧
    (∀ i, w.frozen? ⟨g, i, none⟩ = false) ∧ Sl w hv hs ∧ w.ownsRow base 5 1 hv hs.length (hs.map (Value.int .u8)) := by
  obtain ⟨h1, h2, h3, h5, h6, hh⟩ := h
  have sl := sl_owned h6 h5
  have sl' := sl
  obtain ⟨a, cap, rfl, _⟩ := sl
  exact ⟨a, cap, rfl, h2, h3, by rw [cell_of_row _ _ _ _ _ _ hh]; rfl, by rw [cell_of_row _ _ _ _ _ _ hh]; rfl, by rw [cell_of_row _ _ _ _ _ _ hh]; rfl, fun i => frozen_of_row _ _ _ _ _ hh, sl', h6⟩

set_option maxHeartbeats 1000000 in
theorem wlenR_any (base g : Nat) (hv : Value) (hs : List Int) (gone : Nat) (zs : List Int) (w : World) (h : WinR w base g hv hs gone zs) (hbig : hs.length ≤ 3000000) :
    Calls Tryd.prog 82 #[.pointer (some ⟨g, 0, none⟩)] w fun e w' => e = .returned (.int .i64 (zs.length : Nat)) ∧ Below w.heap.size w w' ∧ w'.heap = w.heap := by
  obtain ⟨a, cap, rfl, h2, h3, c0, c1, c2, hf, sl, own⟩ := h.cells
  clear h2 sl own c0 hf h
  generalize zs.length = n at *
  generalize hs.length = m at *
  go_enter Tryd.func82, Tryd.ntmps82
  go_wp2_with fail
  go_quiet (fail)
  go_wp2_with fail
  go_ret
  exact ⟨by go_num, below_drewN (Below.refl _ _) _, rfl⟩
theorem wlen_any (base g : Nat) (hv : Value) (zs : List Int) (w : World) (h : Win w base g hv zs) (hbig : zs.length ≤ 1000000) :
    Calls Tryd.prog 82 #[.pointer (some ⟨g, 0, none⟩)] w fun e w' => e = .returned (.int .i64 (zs.length : Nat)) ∧ Below w.heap.size w w' ∧ w'.heap = w.heap := by
  obtain ⟨hs, gone, h, h4⟩ := h
  exact wlenR_any base g hv hs gone zs w h (by have := h.2.2.1; omega)

set_option maxHeartbeats 1000000 in
theorem wsum_any (base g : Nat) (hv : Value) (zs : List Int) (w : World) (h : Win w base g hv zs) :
    Calls Tryd.prog 67 #[.pointer (some ⟨g, 0, none⟩)] w fun e w' => e = .returned (.int .u32 (rs zs)) ∧ w' = w := by
  obtain ⟨hs, gone, h, h4⟩ := h
  obtain ⟨a, cap, rfl, h2, h3, c0, c1, c2, hf, sl, own⟩ := h.cells
  have c := packp_any zs w
  clear h2 sl own c1 c2 hf h h3 h4
  generalize fl (pa zs) = A at *
  generalize fl (pb zs) = B at *
  generalize rs zs = r at *
  go_enter Tryd.func67, Tryd.ntmps67
  go_wp2_with fail
  refine c.mono ?_
  rintro e w1 ⟨rfl, rfl⟩
  clear c
  go_wp2_with fail
  go_ret
  exact ⟨rfl, rfl⟩

end Go.Proofs.YtgnampbbkaolmaaDoor.Ro
namespace Go.Proofs.YtgnampbbkaolmaaDoor.Ro
open Go.RowKit
set_option maxRecDepth 100000

/-- A row without its first bytes, as Go cuts it. -/
def cutv (a : Option Addr) (L cap n : Nat) : Value :=
  if cap = n then .slice a 0 0 else match a with
    | none => .slice none 0 0
    | some x => .slice (some ⟨x.block, x.off + n, none⟩) (L - n) (cap - n)

theorem cut_sl {w : World} {a : Option Addr} {L cap n : Nat} {hs : List Int} (h : Sl w (.slice a L cap) hs) (hn : n ≤ L) (hsp : ∀ x, a = some x → x.spot = none) : Sl w (cutv a L cap n) (hs.drop n) := by
  unfold cutv
  have h' := h
  obtain ⟨a', cap', e, h1, h2, h3, h4⟩ := h'
  cases e
  by_cases hc : cap = n
  · rw [if_pos hc]
    have : hs.drop n = [] := List.drop_of_length_le (by omega)
    rw [this]
    exact ⟨a, 0, rfl, Nat.le_refl _, by simp [maxLen], fun _ => rfl, .inl rfl⟩
  · rw [if_neg hc]
    cases a with
    | none => have := h3 rfl; omega
    | some x =>
      obtain ⟨b, off, spot⟩ := x
      obtain rfl : spot = none := hsp _ rfl
      exact h.drop n hn

theorem own_shape {w : World} {base : Nat} {e : TypeId} {size : Nat} {v : Value} {n : Nat} {xs : List Value} (h : w.ownsRow base e size v n xs) : ∃ a c, v = .slice a n c := by
  rcases h.2 with ⟨rfl, rfl⟩ | ⟨g, c, cur, rfl, _⟩
  · exact ⟨_, _, rfl⟩
  · exact ⟨_, _, rfl⟩

theorem own_spot {w : World} {base n : Nat} {a : Option Addr} {L cap : Nat} {xs : List Value} (h : w.ownsRow base 5 1 (.slice a L cap) n xs) : ∀ x, a = some x → x.spot = none := by
  intro x hx
  subst hx
  rcases h.2 with ⟨e, _⟩ | ⟨g, c, cur, e, _⟩
  · cases e
  · cases e; rfl

set_option maxHeartbeats 2000000 in
theorem wbytesR_any (base g : Nat) (hv : Value) (hs : List Int) (gone : Nat) (zs : List Int) (w : World) (h : WinR w base g hv hs gone zs) (hbig : hs.length ≤ 3000000) :
    Calls Tryd.prog 96 #[.pointer (some ⟨g, 0, none⟩)] w fun e w' => ∃ v', e = .returned v' ∧ w'.ownsRow w.heap.size 5 1 v' zs.length (zs.map (Value.int .u8)) ∧ Below w.heap.size w w' := by
  obtain ⟨a, cap, rfl, h2, h3, c0, c1, c2, hf, sl, own⟩ := h.cells
  have hsp := own_spot own
  have sl2 := cut_sl (n := gone) sl (by omega) hsp
  rw [← h2] at sl2
  have hL : hs.length ≤ cap := by obtain ⟨_, _, e, h, _⟩ := sl; cases e; exact h
  have hM : cap ≤ 9223372036854775807 := by obtain ⟨_, _, e, _, h, _⟩ := sl; cases e; unfold maxLen at h; omega
  have hN : a = none → cap = 0 := by obtain ⟨_, _, e, _, _, h, _⟩ := sl; cases e; exact h
  have cc := fun W (hb : Below w.heap.size w W) => clone_any _ zs W (sl2.kept hb) (by omega)
  have CC : Hid (∀ W, Below w.heap.size w W → Calls Tryd.prog 33 #[cutv a hs.length cap gone] W fun r w' => ∃ v', r = .returned v' ∧ w'.ownsRow W.heap.size 5 1 v' zs.length (zs.map (Value.int .u8)) ∧ Below W.heap.size W w') := cc
  have hg1 : (gone : Int) ≤ cap := by omega
  clear cc h2 sl sl2 own c0 hf h
  generalize zs.length = n at *
  generalize zs.map (Value.int .u8) = Z at *
  generalize hs.length = L at *
  by_cases hc : cap = gone
  · unfold cutv at CC
    rw [if_pos hc] at CC
    subst hc
    obtain rfl : L = cap := by omega
    have c3 := CC.out w.drew (Below.refl _ _).drew
    clear hN hsp
    go_enter Tryd.func96, Tryd.ntmps96
    go_wp2_with fail
    go_region_with ((go_at_call 33; refine c3.mono ?_; rintro e w1 ⟨v1, rfl, own1, bel1⟩))
    all_goals
      go_wp2_with fail
      go_ret
      exact ⟨_, rfl, own1, (Below.refl _ _).drew.trans bel1⟩
  · cases a with
    | none => have := hN rfl; omega
    | some x =>
      obtain ⟨b, off, spot⟩ := x
      obtain rfl : spot = none := hsp _ rfl
      unfold cutv at CC
      rw [if_neg hc] at CC
      simp only at CC
      have c3 := CC.out w.drew (Below.refl _ _).drew
      clear hN hsp
      go_enter Tryd.func96, Tryd.ntmps96
      go_wp2_with fail
      go_region_with ((go_at_call 33; refine c3.mono ?_; rintro e w1 ⟨v1, rfl, own1, bel1⟩))
      all_goals
        go_wp2_with fail
        go_ret
        exact ⟨_, rfl, own1, (Below.refl _ _).drew.trans bel1⟩

theorem wbytes_any (base g : Nat) (hv : Value) (zs : List Int) (w : World) (h : Win w base g hv zs) (hbig : zs.length ≤ 1000000) :
    Calls Tryd.prog 96 #[.pointer (some ⟨g, 0, none⟩)] w fun e w' => ∃ v', e = .returned v' ∧ w'.ownsRow w.heap.size 5 1 v' zs.length (zs.map (Value.int .u8)) ∧ Below w.heap.size w w' := by
  obtain ⟨hs, gone, h, h4⟩ := h
  exact wbytesR_any base g hv hs gone zs w h (by have := h.2.2.1; omega)

end Go.Proofs.YtgnampbbkaolmaaDoor.Ro
namespace Go.Proofs.YtgnampbbkaolmaaDoor.Ro
open Go.RowKit
set_option maxRecDepth 100000

/-- All but block g and the row r is as it was. -/
structure Fr (g : Nat) (r : Option Nat) (w w' : World) : Prop where
  os : w'.os = w.os
  tape : w'.tape = w.tape
  output : w'.output = w.output
  size : w.heap.size ≤ w'.heap.size
  block : ∀ k, k < w.heap.size → k ≠ g → some k ≠ r → w'.heap[k]? = w.heap[k]?

theorem Fr.of {g : Nat} {r : Option Nat} {w w' : World} (h : Below w.heap.size w w') : Fr g r w w' := ⟨h.os, h.tape, h.output, h.size, fun k hk _ _ => h.block k hk⟩
theorem Fr.set (g i : Nat) (r : Option Nat) (w : World) (v : Value) : Fr g r w (w.setCell ⟨g, i, none⟩ v) :=
  ⟨rfl, rfl, rfl, by simp [World.setCell], fun k _ hn _ => heap_setCell_other _ _ _ _ hn⟩
theorem Fr.grown {g : Nat} {r : Option Nat} {w w' : World} (h : w.grownBy w' r) : Fr g r w w' := ⟨h.os, h.tape, h.output, h.size, fun k hk _ hr => h.block k hk hr⟩
theorem Fr.trans {g : Nat} {r : Option Nat} {a b c : World} (h : Fr g r a b) (k : Fr g r b c) : Fr g r a c :=
  ⟨k.os.trans h.os, k.tape.trans h.tape, k.output.trans h.output, Nat.le_trans h.size k.size, fun i hi hn hr => (k.block i (Nat.lt_of_lt_of_le hi h.size) hn hr).trans (h.block i hi hn hr)⟩
/-- The row may be another one on the way, if that is new. -/
theorem Fr.trans' {g : Nat} {r r' : Option Nat} {a b c : World} (h : Fr g r a b) (k : Fr g r' b c) (hr : r' = r ∨ ∀ i, r' = some i → a.heap.size ≤ i) : Fr g r a c :=
  ⟨k.os.trans h.os, k.tape.trans h.tape, k.output.trans h.output, Nat.le_trans h.size k.size, fun i hi hn hr1 => (k.block i (Nat.lt_of_lt_of_le hi h.size) hn (by
    rcases hr with rfl | hr
    · exact hr1
    · intro e
      have := hr i e.symm
      omega)).trans (h.block i hi hn hr1)⟩
theorem Fr.below {g B : Nat} {r : Option Nat} {w w' : World} (h : Fr g r w w') (hB : B ≤ g) (hr : ∀ k, r = some k → B ≤ k) (hw : B ≤ w.heap.size) : Below B w w' :=
  ⟨h.os, h.tape, h.output, h.size, fun k hk => h.block k (by omega) (by omega) (fun e => by have := hr k e.symm; omega)⟩

theorem WinR.apart {w : World} {base g : Nat} {hv : Value} {hs : List Int} {gone : Nat} {zs : List Int} (h : WinR w base g hv hs gone zs) : hv.ownBlock ≠ some g := by
  intro e
  obtain ⟨cur, hc⟩ := own_tag h.2.2.2.2.1 e
  have := h.2.2.2.2.2
  rw [hc] at this
  cases this

theorem own_set {w : World} {base : Nat} {e : TypeId} {size : Nat} {v : Value} {n : Nat} {xs : List Value} (h : w.ownsRow base e size v n xs) (g i : Nat) (u : Value) (hn : v.ownBlock ≠ some g) : (w.setCell ⟨g, i, none⟩ u).ownsRow base e size v n xs := by
  obtain ⟨h1, h2⟩ := h
  rcases h2 with h2 | ⟨k, cap, cur, rfl, hg, hh, r⟩
  · exact ⟨h1, .inl h2⟩
  · refine ⟨h1, .inr ⟨k, cap, cur, rfl, hg, ?_, r⟩⟩
    rw [heap_setCell_other _ _ _ _ (fun e => hn (congrArg some e))]
    exact hh

theorem drop_app (hs : List Int) (gone : Nat) (c : Int) (h : gone ≤ hs.length) : (hs ++ [c]).drop gone = hs.drop gone ++ [c] := List.drop_append_of_le_length h

theorem bytes_app {xs ys : List Int} (hx : ∀ i, 0 ≤ xs.getD i 0 ∧ xs.getD i 0 < 256) (hy : ∀ i, 0 ≤ ys.getD i 0 ∧ ys.getD i 0 < 256) : ∀ i, 0 ≤ (xs ++ ys).getD i 0 ∧ (xs ++ ys).getD i 0 < 256 := by
  intro i
  by_cases h : i < xs.length
  · have := hx i
    simpa [List.getD, List.getElem?_append_left h] using this
  · have := hy (i - xs.length)
    simpa [List.getD, List.getElem?_append_right (show xs.length ≤ i by omega)] using this
theorem bytes_one {c : Int} (h0 : 0 ≤ c) (h1 : c < 256) : ∀ i, 0 ≤ [c].getD i 0 ∧ [c].getD i 0 < 256 := byteList _ (by simp; omega)

theorem st_complex (a : Addr) (x y : Nat) : ∀ (W : World) (m : Mode), (store a (.complex .f64 x y) m).run Tryd.prog W = stored Tryd.prog W a (.complex .f64 x y) m := fun W m => run_store Tryd.prog W a _ m rfl

set_option maxHeartbeats 2000000 in
theorem win_any (base g : Nat) (hv : Value) (zs : List Int) (c : Int) (w : World) (h : Win w base g hv zs) (hbig : zs.length ≤ 1000000) (hc0 : 0 ≤ c) (hc1 : c < 256) :
    Calls Tryd.prog 70 #[.pointer (some ⟨g, 0, none⟩), .int .u8 c] w fun e w' => e = .returned (.tuple #[]) ∧ ∃ hv', Win w' base g hv' (zs ++ [c]) ∧ Fr g hv.ownBlock w w' ∧ (hv'.ownBlock = hv.ownBlock ∨ ∀ k, hv'.ownBlock = some k → w.heap.size ≤ k) := by
  obtain ⟨i0, hi, hz0, hz1, hz2⟩ := info_parts info5'
  obtain ⟨hs, gone, h, h4⟩ := h
  have hap := h.apart
  have hlt := h.lt
  have h' := h
  obtain ⟨a, cap, rfl, h2, h3, c0, c1, c2, hf, sl, own⟩ := h.cells
  obtain ⟨hbg, _, _, hby, _, hh⟩ := h'
  have cw := with_any (pa zs) (pb zs) c w (pa_range _) (pb_range _) ⟨hc0, hc1⟩
  rw [← pa_snoc, ← pb_snoc] at cw
  have f0 := hf 0
  have f1 := hf 1
  obtain ⟨A', hA⟩ : ∃ A', A' = fl (pa (zs ++ [c])) := ⟨_, rfl⟩
  obtain ⟨B', hB⟩ : ∃ B', B' = fl (pb (zs ++ [c])) := ⟨_, rfl⟩
  rw [← hA, ← hB] at cw
  obtain ⟨w1, hw1⟩ : ∃ w1, w1 = w.setCell ⟨g, 0, none⟩ (.complex .f64 A' B') := ⟨_, rfl⟩
  obtain ⟨w2, hw2⟩ : ∃ w2, w2 = w1.alloc (.cells #[.int .u8 c] 5) := ⟨_, rfl⟩
  -- the worlds on the way
  have hh1 : w1.heap[g]? = some (.cells #[.complex .f64 A' B', .slice a hs.length cap, .int .i64 gone] 114 (0, 0)) := by
    rw [hw1, heap_setCell_same _ _ _ _ _ _ hh]; rfl
  have fr1 : Fr g (Value.slice a hs.length cap).ownBlock w w1 := by rw [hw1]; exact Fr.set g 0 _ w _
  have hs1 : w1.heap.size = w.heap.size := by rw [hw1]; simp [World.setCell]
  have bel2 : Below w1.heap.size w1 w2 := by rw [hw2]; exact (Below.refl _ _).alloc (Nat.le_refl _) _
  have own1 : w1.ownsRow base 5 1 (.slice a hs.length cap) hs.length (hs.map (Value.int .u8)) := by rw [hw1]; exact own_set own g 0 _ hap
  have own2 := own_below own1 bel2
  have hh2 : w2.heap[g]? = some (.cells #[.complex .f64 A' B', .slice a hs.length cap, .int .i64 gone] 114 (0, 0)) := (bel2.block g (by omega)).trans hh1
  have d1 : w1.cell? ⟨g, 1, none⟩ = some (.slice a hs.length cap) := by rw [cell_of_row _ _ _ _ _ _ hh1]; rfl
  have sl2 : Sl w2 (.slice (some ⟨w1.heap.size, 0, none⟩) 1 1) [c] := by rw [hw2]; exact sl_one w1 c hc0 hc1
  have news := news_row (xs := [c]) (cap := 1) (x := ⟨w1.heap.size, 0, none⟩) (w := w2) (by obtain ⟨_, _, e, _, _, _, r⟩ := sl2; cases e; exact r)
  have hsz2 : base ≤ w2.heap.size := by have := bel2.size; omega
  have hh3 : ∀ w3, w2.grownBy w3 (Value.slice a hs.length cap).ownBlock → w3.heap[g]? = some (.cells #[.complex .f64 A' B', .slice a hs.length cap, .int .i64 gone] 114 (0, 0)) := fun w3 hg3 => by
    rw [hg3.block g (by have := bel2.size; omega) (fun e => hap e.symm)]; exact hh2
  have FIN : Hid (∀ v' w3, w3.ownsRow base 5 1 v' (hs.length + 1) (hs.map (Value.int .u8) ++ [Value.int .u8 c]) → w2.grownBy w3 (Value.slice a hs.length cap).ownBlock → (v'.ownBlock = (Value.slice a hs.length cap).ownBlock ∨ v'.ownBlock = some w2.heap.size) →
      ∃ hv', Win (w3.setCell ⟨g, 1, none⟩ v') base g hv' (zs ++ [c]) ∧ Fr g (Value.slice a hs.length cap).ownBlock w (w3.setCell ⟨g, 1, none⟩ v') ∧ (hv'.ownBlock = (Value.slice a hs.length cap).ownBlock ∨ ∀ k, hv'.ownBlock = some k → w.heap.size ≤ k)) := by
    intro v' w3 own3 hg3 hat
    have k3 := hh3 w3 hg3
    have hne : v'.ownBlock ≠ some g := by
      intro e
      obtain ⟨cur, hc⟩ := own_tag own3 e
      rw [hc] at k3
      cases k3
    refine ⟨v', ⟨hs ++ [c], gone, ⟨hbg, ?_, ?_, ?_, ?_, ?_⟩, by simp; omega⟩, ?_, ?_⟩
    · rw [drop_app _ _ _ (by omega), ← h2]
    · simp; omega
    · exact bytes_app hby (bytes_one hc0 hc1)
    · rw [List.length_append, List.map_append]
      exact own_set own3 g 1 _ hne
    · rw [heap_setCell_same _ _ _ _ _ _ k3, ← hA, ← hB]; rfl
    · exact (fr1.trans (Fr.of bel2)).trans ((Fr.grown hg3).trans (Fr.set g 1 _ _ _))
    · rcases hat with e | e
      · exact .inl e
      · refine .inr fun k hk => ?_
        rw [e] at hk
        cases hk
        have := bel2.size
        omega
  have HT : Hid (∀ w3, w2.grownBy w3 (Value.slice a hs.length cap).ownBlock → w3.cell? ⟨g, 1, none⟩ = some (.slice a hs.length cap) ∧ w3.frozen? ⟨g, 1, none⟩ = false) := fun w3 hg3 => by
    have k3 := hh3 w3 hg3
    exact ⟨by rw [cell_of_row _ _ _ _ _ _ k3]; rfl, frozen_of_row _ _ _ _ _ k3⟩
  have OWN : Hid (w2.ownsRow base 5 1 (.slice a hs.length cap) hs.length (hs.map (Value.int .u8))) := own2
  have NEWS : Hid (∀ j u, ([c].map (Value.int .u8))[j]? = some u → w2.cell? ((⟨w1.heap.size, 0, none⟩ : Addr).add j) = some u) := news
  have HW1 : Hid (w.setCell ⟨g, 0, none⟩ (.complex .f64 A' B') = w1) := hw1.symm
  have HW2 : Hid (w1.alloc (.cells #[.int .u8 c] 5) = w2) := hw2.symm
  have hm : hs.length ≤ 3000000 := by omega
  clear own1 own2 hh1 hh2 hh3 sl2 news fr1 bel2 hw1 hw2 hf hh sl own h h2 h3 h4 hA hB hbg hby hap hbig c1 c2 hs1
  generalize hs.map (Value.int .u8) = HM at *
  generalize hs.length = L at *
  generalize fl (pa zs) = A at *
  generalize fl (pb zs) = B at *
  have hst := st_complex ⟨g, 0, none⟩ A' B'
  go_enter Tryd.func70, Tryd.ntmps70
  go_wp2_with fail
  refine cw.mono ?_
  rintro e u1 ⟨rfl, rfl⟩
  clear cw
  go_wp2_with (first | (rw [HW2.out]; at_builtin; refine wpList_append_own_at _ rfl _ _ 22 rfl base 5 i0 (.int .u8 0) 1 1 Tryd.underlying22 hi hz0 hz1 hz2 rfl (by decide) _ _ _ rfl OWN.out _ 1 1 ([c].map (Value.int .u8)) rfl rfl NEWS.out (ints_one [c]) (by unfold maxLen; omega) (by omega) hsz2 ?_) | rw [HW1.out])
  intro v' w3 own3 hg3 _ hat
  obtain ⟨t1, t2⟩ := HT.out w3 hg3
  have hF := FIN.out v' w3 own3 hg3 hat
  obtain ⟨a', cap', rfl⟩ := own_shape own3
  have HF : Hid (∃ hv', Win (w3.setCell ⟨g, 1, none⟩ (.slice a' (L + 1) cap')) base g hv' (zs ++ [c]) ∧ Fr g (Value.slice a L cap).ownBlock u1 (w3.setCell ⟨g, 1, none⟩ (.slice a' (L + 1) cap')) ∧ (hv'.ownBlock = (Value.slice a L cap).ownBlock ∨ ∀ k, hv'.ownBlock = some k → u1.heap.size ≤ k)) := hF
  clear hF own3 hg3 hat
  go_wp2_with fail
  go_end0
  exact ⟨rfl, HF.out⟩
end Go.Proofs.YtgnampbbkaolmaaDoor.Ro
namespace Go.Proofs.YtgnampbbkaolmaaDoor.Ro
open Go.RowKit
set_option maxRecDepth 100000

/-- A window behind a change of its first or its other cells. -/
theorem WinR.setGone {w : World} {base g : Nat} {hv : Value} {hs : List Int} {gone : Nat} {zs : List Int} (h : WinR w base g hv hs gone zs) (hv' : Value) (hs' : List Int)
    (w' : World) (own : w'.ownsRow base 5 1 hv' hs'.length (hs'.map (Value.int .u8))) (hh : w'.heap[g]? = some (.cells #[.complex .f64 (fl (pa zs)) (fl (pb zs)), hv', .int .i64 0] 114 (0, 0))) (e : hs' = zs) : Win w' base g hv' zs := by
  subst e
  exact ⟨hs', 0, ⟨h.1, rfl, by simp, h.bytes, own, hh⟩, by simp⟩

set_option maxHeartbeats 2000000 in
theorem tidy_any (base g : Nat) (hv : Value) (hs : List Int) (gone : Nat) (zs : List Int) (w : World) (h : WinR w base g hv hs gone zs) (hbig : hs.length ≤ 3000000) :
    Calls Tryd.prog 84 #[.pointer (some ⟨g, 0, none⟩)] w fun e w' => e = .returned (.tuple #[]) ∧ ∃ hv', Win w' base g hv' zs ∧ Fr g hv.ownBlock w w' ∧ (hv'.ownBlock = hv.ownBlock ∨ ∀ k, hv'.ownBlock = some k → w.heap.size ≤ k) := by
  have hlt := h.lt
  have cl := wlenR_any base g hv hs gone zs w.drew (h.kept (Below.refl _ _).drew) hbig
  have HCB : Hid (∀ W, Below w.heap.size w W → Calls Tryd.prog 96 #[.pointer (some ⟨g, 0, none⟩)] W fun e w' => ∃ v', e = .returned v' ∧ w'.ownsRow W.heap.size 5 1 v' zs.length (zs.map (Value.int .u8)) ∧ Below W.heap.size W w') := fun W hb => wbytesR_any base g hv hs gone zs W (h.kept hb) hbig
  have h' := h
  obtain ⟨a, cap, rfl, h2, h3, c0, c1, c2, hf, sl, own⟩ := h'.cells
  have hbg := h.1
  have hap := h.apart
  have hh := h.2.2.2.2.2
  have HK : Hid (∀ W, Below w.heap.size w W → gone ≤ zs.length → ∃ hv', Win W base g hv' zs ∧ Fr g (Value.slice a hs.length cap).ownBlock w W ∧ (hv'.ownBlock = (Value.slice a hs.length cap).ownBlock ∨ ∀ k, hv'.ownBlock = some k → w.heap.size ≤ k)) :=
    fun W hb hle => ⟨_, ⟨hs, gone, h.kept hb, hle⟩, Fr.of hb, .inl rfl⟩
  have HC2 : Hid (∀ W, Below w.heap.size w W → W.cell? ⟨g, 2, none⟩ = some (.int .i64 gone)) := fun W hb => (hb.cell (p := ⟨g, 2, none⟩) hlt).trans c2
  have HS : Hid (∀ W, Below w.heap.size w W → W.cell? ⟨g, 1, none⟩ = some (.slice a hs.length cap) ∧ W.frozen? ⟨g, 1, none⟩ = false ∧ W.cell? ⟨g, 2, none⟩ = some (.int .i64 gone) ∧ W.frozen? ⟨g, 2, none⟩ = false) := fun W hb => by
    have hW := (hb.block g hlt).trans hh
    exact ⟨by rw [cell_of_row _ _ _ _ _ _ hW]; rfl, frozen_of_row _ _ _ _ _ hW, by rw [cell_of_row _ _ _ _ _ _ hW]; rfl, frozen_of_row _ _ _ _ _ hW⟩
  have FIN : Hid (∀ W v', Below w.heap.size w W → W.ownsRow w.heap.size 5 1 v' zs.length (zs.map (Value.int .u8)) →
      ∃ hv', Win ((W.setCell ⟨g, 1, none⟩ v').setCell ⟨g, 2, none⟩ (.int .i64 0)) base g hv' zs ∧ Fr g (Value.slice a hs.length cap).ownBlock w ((W.setCell ⟨g, 1, none⟩ v').setCell ⟨g, 2, none⟩ (.int .i64 0)) ∧ (hv'.ownBlock = (Value.slice a hs.length cap).ownBlock ∨ ∀ k, hv'.ownBlock = some k → w.heap.size ≤ k)) := by
    intro W v' hb own'
    have hW := (hb.block g hlt).trans hh
    have hge := own_base own'
    have hne : v'.ownBlock ≠ some g := fun e => by have := hge g e; omega
    refine ⟨v', h.setGone v' zs _ (own_set (own_set (own_mono own' (by omega)) g 1 _ hne) g 2 _ hne) ?_ rfl, ?_, .inr hge⟩
    · rw [heap_setCell_same _ _ _ _ _ _ (heap_setCell_same _ _ _ _ _ _ hW)]; rfl
    · exact (Fr.of hb).trans ((Fr.set g 1 _ _ _).trans (Fr.set g 2 _ _ _))
  clear h2 sl own c0 c1 hf h hh h' hap hbg
  by_cases hle : gone ≤ zs.length
  · have hd : decide ((zs.length : Int) < gone) = false := by simp; omega
    generalize zs.length = n at *
    generalize hs.length = m at *
    go_enter Tryd.func84, Tryd.ntmps84
    go_wp2_with fail
    go_region_with ((go_at_call 82; refine cl.mono ?_; rintro e w1 ⟨rfl, bel1, _⟩; have bel2 := (Below.refl w.heap.size w).drew.trans bel1; have d2 := HC2.out w1 bel2; clear bel1))
    all_goals
      go_wp2_with fail
      go_end0
      exact ⟨rfl, HK.out _ bel2 hle⟩
  · have hgt : (zs.length : Int) < gone := by omega
    obtain ⟨n, hn⟩ : ∃ n, n = zs.length := ⟨_, rfl⟩
    rw [← hn] at cl hgt HCB FIN h3
    clear hn hle HK
    generalize hs.length = m at *
    go_enter Tryd.func84, Tryd.ntmps84
    go_wp2_with fail
    go_region_with ((go_at_call 82; refine cl.mono ?_; rintro e w1 ⟨rfl, bel1, _⟩; have bel2 := (Below.refl w.heap.size w).drew.trans bel1; have d2 := HC2.out w1 bel2; clear bel1))
    all_goals
      go_wp2_with fail
      refine (HCB.out _ bel2).mono ?_
      rintro e w2 ⟨v2, rfl, own2, bel3⟩
      have bel4 := bel2.trans (bel3.mono bel2.size)
      obtain ⟨s1, s2, s3, s4⟩ := HS.out w2 bel4
      have hF := FIN.out w2 v2 bel4 (own_mono own2 bel2.size)
      obtain ⟨a2, cap2, rfl⟩ := own_shape own2
      have HF : Hid (∃ hv', Win ((w2.setCell ⟨g, 1, none⟩ (.slice a2 n cap2)).setCell ⟨g, 2, none⟩ (.int .i64 0)) base g hv' zs ∧ Fr g (Value.slice a m cap).ownBlock w ((w2.setCell ⟨g, 1, none⟩ (.slice a2 n cap2)).setCell ⟨g, 2, none⟩ (.int .i64 0)) ∧ (hv'.ownBlock = (Value.slice a m cap).ownBlock ∨ ∀ k, hv'.ownBlock = some k → w.heap.size ≤ k)) := hF
      clear hF own2 bel3 bel4 bel2 d2 cl
      go_wp2_with fail
      go_end0
      exact ⟨rfl, HF.out⟩
end Go.Proofs.YtgnampbbkaolmaaDoor.Ro
namespace Go.Proofs.YtgnampbbkaolmaaDoor.Ro
open Go.RowKit
set_option maxRecDepth 100000

set_option maxHeartbeats 2000000 in
theorem wout_none (base g : Nat) (hv : Value) (w : World) (h : Win w base g hv []) :
    Calls Tryd.prog 69 #[.pointer (some ⟨g, 0, none⟩)] w fun e w' => e = .returned (.tuple #[.int .u8 0, .bool false]) ∧ Below w.heap.size w w' ∧ w'.heap = w.heap := by
  have c := wlen_any base g hv [] w h (by simp)
  clear h
  go_enter Tryd.func69, Tryd.ntmps69
  go_wp2_with fail
  refine c.mono ?_
  rintro e w1 ⟨rfl, hb, hh⟩
  clear c
  go_wp2_with fail
  go_ret2
  exact ⟨rfl, hb, hh⟩

set_option maxHeartbeats 2000000 in
theorem wout_some (base g : Nat) (hv : Value) (c : Int) (r : List Int) (w : World) (h : Win w base g hv (c :: r)) (hbig : r.length < 1000000) :
    Calls Tryd.prog 69 #[.pointer (some ⟨g, 0, none⟩)] w fun e w' => e = .returned (.tuple #[.int .u8 c, .bool true]) ∧ ∃ hv', Win w' base g hv' r ∧ Fr g hv.ownBlock w w' ∧ (hv'.ownBlock = hv.ownBlock ∨ ∀ k, hv'.ownBlock = some k → w.heap.size ≤ k) := by
  have cl := wlen_any base g hv (c :: r) w h (by simp; omega)
  obtain ⟨hs, gone, h, h4⟩ := h
  have hlt := h.lt
  have hap := h.apart
  have hcb : 0 ≤ c ∧ c < 256 := by simpa using h.bytes 0
  have hh := h.2.2.2.2.2
  have CW : Hid (∀ W, Calls Tryd.prog 83 #[.complex .f64 (fl (pa (c :: r))) (fl (pb (c :: r))), .int .u8 c, .int .i64 ((r.length + 1 : Nat) : Int)] W fun e w' => e = .returned (.complex .f64 (fl (pa r)) (fl (pb r))) ∧ w' = W) := fun W => by
    have := without_any (pa (c :: r)) (pb (c :: r)) c ((r.length + 1 : Nat) : Int) W (pa_range _) (pb_range _) hcb (by omega) (by omega)
    rw [← pa_tail, ← pb_tail] at this
    exact this
  have HS : Hid (∀ W, Below w.heap.size w W → WinR W base g hv hs gone (c :: r)) := fun W hb => h.kept hb
  obtain ⟨a, cap, rfl, h2, h3, c0, c1, c2, hf, sl, own⟩ := h.cells
  have hlen : hs.length ≤ 3000000 := by simp at h3 h4; omega
  have hgl : gone < hs.length := by simp at h3; omega
  have hgc : hs.getD gone 0 = c := by
    have : (hs.drop gone)[0]? = some c := by rw [← h2]; rfl
    rw [List.getElem?_drop, Nat.add_zero] at this
    simp [List.getD, this]
  have TD : Hid (∀ W, Below w.heap.size w W → Calls Tryd.prog 84 #[.pointer (some ⟨g, 0, none⟩)] ((W.setCell ⟨g, 0, none⟩ (.complex .f64 (fl (pa r)) (fl (pb r)))).setCell ⟨g, 2, none⟩ (.int .i64 ((gone : Int) + 1))) fun e w' => e = .returned (.tuple #[]) ∧ ∃ hv', Win w' base g hv' r ∧ Fr g (Value.slice a hs.length cap).ownBlock w w' ∧ (hv'.ownBlock = (Value.slice a hs.length cap).ownBlock ∨ ∀ k, hv'.ownBlock = some k → w.heap.size ≤ k)) := by
    intro W hb
    rw [show (gone : Int) + 1 = ((gone + 1 : Nat) : Int) by omega]
    have hW := HS.out W hb
    have hWh := hW.2.2.2.2.2
    have fr1 : Fr g (Value.slice a hs.length cap).ownBlock w ((W.setCell ⟨g, 0, none⟩ (.complex .f64 (fl (pa r)) (fl (pb r)))).setCell ⟨g, 2, none⟩ (.int .i64 ((gone + 1 : Nat) : Int))) :=
      (Fr.of hb).trans ((Fr.set g 0 _ _ _).trans (Fr.set g 2 _ _ _))
    have hR : WinR ((W.setCell ⟨g, 0, none⟩ (.complex .f64 (fl (pa r)) (fl (pb r)))).setCell ⟨g, 2, none⟩ (.int .i64 ((gone + 1 : Nat) : Int))) base g (.slice a hs.length cap) hs (gone + 1) r := by
      refine ⟨h.1, ?_, ?_, h.2.2.2.1, own_set (own_set hW.2.2.2.2.1 g 0 _ hap) g 2 _ hap, ?_⟩
      · rw [← List.drop_drop, ← h2]; rfl
      · simp at h3; omega
      · rw [heap_setCell_same _ _ _ _ _ _ (heap_setCell_same _ _ _ _ _ _ hWh)]; rfl
    refine (tidy_any base g _ hs (gone + 1) r _ hR hlen).mono ?_
    rintro e w' ⟨rfl, hv', k1, k2, k3⟩
    refine ⟨rfl, hv', k1, fr1.trans k2, ?_⟩
    rcases k3 with k3 | k3
    · exact .inl k3
    · exact .inr fun k hk => Nat.le_trans fr1.size (k3 k hk)
  obtain ⟨b, off, rfl, hbyte⟩ : ∃ b off, a = some ⟨b, off, none⟩ ∧ ∀ W, Below w.heap.size w W → W.cell? ⟨b, off + gone, none⟩ = some (.int .u8 c) := by
    have sl0 := sl
    obtain ⟨a', cap', e, _, _, _, rr⟩ := sl
    cases e
    rcases rr with rr | ⟨_, b, off, rfl, _, _, hc, _⟩
    · omega
    · refine ⟨b, off, rfl, fun W hb => ?_⟩
      rw [(hb.cell (p := ⟨b, off + gone, none⟩) (World.block_lt_of_cell? _ _ (hc gone hgl))), hc gone hgl, hgc]
  have HB : Hid (∀ W, Below w.heap.size w W → W.cell? ⟨b, off + gone, none⟩ = some (.int .u8 c)) := hbyte
  have HC : Hid (∀ W, Below w.heap.size w W → W.cell? ⟨g, 0, none⟩ = some (.complex .f64 (fl (pa (c :: r))) (fl (pb (c :: r)))) ∧ W.cell? ⟨g, 1, none⟩ = some (.slice (some ⟨b, off, none⟩) hs.length cap) ∧ W.cell? ⟨g, 2, none⟩ = some (.int .i64 gone) ∧ W.frozen? ⟨g, 0, none⟩ = false ∧ W.frozen? ⟨g, 2, none⟩ = false) := fun W hb => by
    have hW := (hb.block g hlt).trans hh
    exact ⟨by rw [cell_of_row _ _ _ _ _ _ hW]; rfl, by rw [cell_of_row _ _ _ _ _ _ hW]; rfl, by rw [cell_of_row _ _ _ _ _ _ hW]; rfl, frozen_of_row _ _ _ _ _ hW, frozen_of_row _ _ _ _ _ hW⟩
  have hst := st_complex ⟨g, 0, none⟩ (fl (pa r)) (fl (pb r))
  clear hbyte h2 h3 h4 c0 c1 c2 hf sl own h HS hh hap hgc
  rw [List.length_cons] at cl
  generalize fl (pa r) = A' at *
  generalize fl (pb r) = B' at *
  generalize fl (pa (c :: r)) = A at *
  generalize fl (pb (c :: r)) = B at *
  generalize hs.length = m at *
  obtain ⟨n, hn⟩ : ∃ n, n = r.length + 1 := ⟨_, rfl⟩
  rw [← hn] at cl CW
  have hn0 : (n : Int) ≠ 0 := by omega
  have hnn : ((n : Int) == 0) = false := by simpa using hn0
  have hg1 : (gone : Int) < m := by omega
  clear hn hbig hn0
  go_enter Tryd.func69, Tryd.ntmps69
  go_wp2_with fail
  refine cl.mono ?_
  rintro e w1 ⟨rfl, bel1, _⟩
  clear cl
  obtain ⟨d0, d1, d2, d3, d4⟩ := HC.out w1 bel1
  have d5 := HB.out w1 bel1
  go_wp2_with fail
  go_quiet (fail)
  go_wp2_with fail
  refine (CW.out _).mono ?_
  rintro e w2 ⟨rfl, rfl⟩
  go_wp2_with fail
  refine (TD.out _ (below_drewN bel1 _)).mono ?_
  rintro e w3 ⟨rfl, hF⟩
  have HF : Hid (∃ hv', Win w3 base g hv' r ∧ Fr g (Value.slice (some ⟨b, off, none⟩) m cap).ownBlock w w3 ∧ (hv'.ownBlock = (Value.slice (some ⟨b, off, none⟩) m cap).ownBlock ∨ ∀ k, hv'.ownBlock = some k → w.heap.size ≤ k)) := hF
  clear hF TD CW
  go_wp2_with fail
  go_ret2
  exact ⟨rfl, HF.out⟩

set_option maxHeartbeats 2000000 in
theorem wroll_none (base g : Nat) (hv : Value) (d : Int) (w : World) (h : Win w base g hv []) :
    Calls Tryd.prog 52 #[.pointer (some ⟨g, 0, none⟩), .int .u8 d] w fun e w' => e = .returned (.bool false) ∧ Below w.heap.size w w' ∧ w'.heap = w.heap := by
  have c := wout_none base g hv w h
  clear h
  go_enter Tryd.func52, Tryd.ntmps52
  go_wp2_with fail
  refine c.mono ?_
  rintro e w1 ⟨rfl, hb, hh⟩
  clear c
  go_wp2_with fail
  go_ret
  exact ⟨rfl, hb, hh⟩

set_option maxHeartbeats 2000000 in
theorem wroll_some (base g : Nat) (hv : Value) (c d : Int) (r : List Int) (w : World) (h : Win w base g hv (c :: r)) (hbig : r.length < 1000000) (hd0 : 0 ≤ d) (hd1 : d < 256) :
    Calls Tryd.prog 52 #[.pointer (some ⟨g, 0, none⟩), .int .u8 d] w fun e w' => e = .returned (.bool true) ∧ ∃ hv', Win w' base g hv' (r ++ [d]) ∧ Fr g hv.ownBlock w w' ∧ (hv'.ownBlock = hv.ownBlock ∨ ∀ k, hv'.ownBlock = some k → w.heap.size ≤ k) := by
  have c1 := wout_some base g hv c r w h hbig
  have HI : Hid (∀ W hv', Win W base g hv' r → Fr g hv.ownBlock w W → (hv'.ownBlock = hv.ownBlock ∨ ∀ k, hv'.ownBlock = some k → w.heap.size ≤ k) →
      Calls Tryd.prog 70 #[.pointer (some ⟨g, 0, none⟩), .int .u8 d] W fun e w' => e = .returned (.tuple #[]) ∧ ∃ hv', Win w' base g hv' (r ++ [d]) ∧ Fr g hv.ownBlock w w' ∧ (hv'.ownBlock = hv.ownBlock ∨ ∀ k, hv'.ownBlock = some k → w.heap.size ≤ k)) := by
    intro W hv1 k1 k2 k3
    refine (win_any base g hv1 r d W k1 (by omega) hd0 hd1).mono ?_
    rintro e w' ⟨rfl, hv2, m1, m2, m3⟩
    refine ⟨rfl, hv2, m1, k2.trans' m2 k3, ?_⟩
    rcases m3 with m3 | m3
    · rw [m3]; exact k3
    · exact .inr fun k hk => Nat.le_trans k2.size (m3 k hk)
  clear h hbig hd0 hd1
  go_enter Tryd.func52, Tryd.ntmps52
  go_wp2_with fail
  refine c1.mono ?_
  rintro e w1 ⟨rfl, hv1, k1, k2, k3⟩
  clear c1
  have c2 := HI.out w1 hv1 k1 k2 k3
  clear HI k1 k2 k3
  go_wp2_with fail
  refine c2.mono ?_
  rintro e w2 ⟨rfl, hF⟩
  have HF : Hid (∃ hv', Win w2 base g hv' (r ++ [d]) ∧ Fr g hv.ownBlock w w2 ∧ (hv'.ownBlock = hv.ownBlock ∨ ∀ k, hv'.ownBlock = some k → w.heap.size ≤ k)) := hF
  clear hF c2
  go_wp2_with fail
  go_ret
  exact ⟨rfl, HF.out⟩

theorem Win.base {w : World} {base g : Nat} {hv : Value} {zs : List Int} (h : Win w base g hv zs) : base ≤ g ∧ base ≤ w.heap.size ∧ ∀ k, hv.ownBlock = some k → base ≤ k := by
  have := h.lt
  obtain ⟨hs, gone, h, _⟩ := h
  exact ⟨h.1, by have := h.1; omega, own_base h.2.2.2.2.1⟩
theorem Win.fr {w w' : World} {base g : Nat} {hv : Value} {zs : List Int} (h : Win w base g hv zs) (f : Fr g hv.ownBlock w w') : Below base w w' := f.below h.base.1 h.base.2.2 h.base.2.1
end Go.Proofs.YtgnampbbkaolmaaDoor.Ro
