/-
  What bits.RotateLeft32 by a number below nought, and sha.turned, answer.
-/
import Derived.Test.YtlhmpcmlpfffoaaDoorShPl
import Derived.Test.YtlhmpcmlpfffoaaDoorBas
namespace Go.Proofs.YtlhmpcmlpfffoaaDoor.Sh
open Go.RowKit
set_option maxRecDepth 100000

theorem wrap32 (z : Int) : IntKind.u32.wrap z = z % 4294967296 := by simp [IntKind.wrap, IntKind.bits, IntKind.signed]
theorem wrap64 (z : Int) : IntKind.u64.wrap z = z % 18446744073709551616 := by simp [IntKind.wrap, IntKind.bits, IntKind.signed]

/-- Shifts, as the walk spells them. -/
theorem shl32 (x s : Nat) (hs : s < 32) : (x : Int) * 2 ^ min s 32 % 4294967296 = ((x * 2 ^ s % 4294967296 : Nat) : Int) := by
  rw [Nat.min_eq_left (by omega)]; simp
theorem shr32 (x s : Nat) (hs : s < 32) : (x : Int) / 2 ^ min s 32 = ((x / 2 ^ s : Nat) : Int) := by
  rw [Nat.min_eq_left (by omega)]; simp
theorem and31 (k : Nat) (h0 : 0 < k) (h1 : k < 32) : bits BinOp.and IntKind.u64 ((18446744073709551616 - k : Nat) : Int) 31 = ((32 - k : Nat) : Int) := by
  have := u64_and_nat (18446744073709551616 - k) 31 (by omega) (by omega)
  rw [show ((31 : Nat) : Int) = 31 from rfl] at this
  rw [this]
  have e : (18446744073709551616 - k) &&& 31 = (18446744073709551616 - k) % 32 := Nat.and_two_pow_sub_one_eq_mod _ 5
  rw [e]
  congr 1
  omega

set_option maxHeartbeats 1000000 in
theorem rot_any (k x : Nat) (w : World) (h0 : 0 < k) (h1 : k < 32) (hx : x < 4294967296) :
    Calls Tryd.prog 75 #[.int .u32 x, .int .i64 (-(k : Int))] w fun e w' => e = .returned (.int .u32 (Pl.rotr k x : Nat)) ∧ w' = w := by
  have hw : IntKind.u64.wrap (-(k : Int)) = ((18446744073709551616 - k : Nat) : Int) := by rw [wrap64]; omega
  have ha := and31 k h0 h1
  have hw2 : IntKind.u64.wrap (32 - ((32 - k : Nat) : Int)) = (k : Int) := by rw [wrap64]; omega
  have hl := shl32 x (32 - k) (by omega)
  have hr := shr32 x k h1
  have ho := u32_or_nat (x * 2 ^ (32 - k) % 4294967296) (x / 2 ^ k) (Nat.mod_lt _ (by decide)) (Nat.lt_of_le_of_lt (Nat.div_le_self _ _) hx)
  have hf : Pl.rotr k x = x * 2 ^ (32 - k) % 4294967296 ||| x / 2 ^ k := rfl
  rw [hf]
  clear hf
  generalize x * 2 ^ (32 - k) % 4294967296 ||| x / 2 ^ k = r at *
  generalize x * 2 ^ (32 - k) % 4294967296 = p at *
  generalize x / 2 ^ k = q at *
  generalize 18446744073709551616 - k = m at *
  generalize 32 - k = s at *
  clear h0 h1 hx
  go_enter Tryd.func75, Tryd.ntmps75
  go_wp2
  go_ret
  exact ⟨rfl, rfl⟩

theorem neg_lit (k : Nat) : IntKind.i64.wrap (-(k : Int)) = if k ≤ 9223372036854775808 then -(k : Int) else IntKind.i64.wrap (-(k : Int)) := by
  split
  · simp [IntKind.wrap, IntKind.bits, IntKind.signed]; omega
  · rfl

set_option maxHeartbeats 1000000 in
theorem turned_any (x i j k : Nat) (w : World) (hi : 0 < i ∧ i < 32) (hj : 0 < j ∧ j < 32) (hk : 0 < k ∧ k < 32) (hx : x < 4294967296) :
    Calls Tryd.prog 69 #[.int .u32 x, .int .i64 i, .int .i64 j, .int .i64 k] w fun e w' => e = .returned (.int .u32 (Pl.tri i j k x : Nat)) ∧ w' = w := by
  have c1 := rot_any i x w hi.1 hi.2 hx
  have c2 := rot_any j x w hj.1 hj.2 hx
  have c3 := rot_any k x w hk.1 hk.2 hx
  have n1 : IntKind.i64.wrap (-(i : Int)) = -(i : Int) := by rw [neg_lit, if_pos (by omega)]
  have n2 : IntKind.i64.wrap (-(j : Int)) = -(j : Int) := by rw [neg_lit, if_pos (by omega)]
  have n3 : IntKind.i64.wrap (-(k : Int)) = -(k : Int) := by rw [neg_lit, if_pos (by omega)]
  have x1 := u32_xor_nat (Pl.rotr i x) (Pl.rotr j x) (Pl.rotr_lt _ _ hx) (Pl.rotr_lt _ _ hx)
  have x2 := u32_xor_nat (Pl.rotr i x ^^^ Pl.rotr j x) (Pl.rotr k x) (Pl.xor_lt (Pl.rotr_lt _ _ hx) (Pl.rotr_lt _ _ hx)) (Pl.rotr_lt _ _ hx)
  have hf : Pl.tri i j k x = Pl.rotr i x ^^^ Pl.rotr j x ^^^ Pl.rotr k x := rfl
  rw [hf]
  clear hf hi hj hk hx
  generalize Pl.rotr i x ^^^ Pl.rotr j x ^^^ Pl.rotr k x = r at *
  generalize Pl.rotr i x ^^^ Pl.rotr j x = r12 at *
  generalize Pl.rotr i x = r1 at *
  generalize Pl.rotr j x = r2 at *
  generalize Pl.rotr k x = r3 at *
  go_enter Tryd.func69, Tryd.ntmps69
  go_wp2_with fail
  refine c1.mono ?_
  rintro e w1 ⟨rfl, e1⟩
  subst e1
  clear c1
  go_wp2_with fail
  refine c2.mono ?_
  rintro e w1 ⟨rfl, e1⟩
  subst e1
  clear c2
  go_wp2_with fail
  refine c3.mono ?_
  rintro e w1 ⟨rfl, e1⟩
  subst e1
  clear c3
  go_wp2
  go_ret
  exact ⟨rfl, rfl⟩
end Go.Proofs.YtlhmpcmlpfffoaaDoor.Sh
