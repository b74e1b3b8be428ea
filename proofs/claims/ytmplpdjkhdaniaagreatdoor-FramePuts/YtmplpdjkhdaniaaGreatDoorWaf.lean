/-
  What varint.PutIn and varint.Put answer: the number's bytes in the width, its mark in the two highest bits of the first one, in new memory; or the error that the document names. Condition: the package-level table of widths holds 1, 2, 4, 8.
-/
import Derived.Test.YtmplpdjkhdaniaaGreatDoorWae
namespace Go.Proofs.YtmplpdjkhdaniaaGreatDoor.Fi
open Go.RowKit
set_option maxRecDepth 100000

theorem wraps_i64 (n : Int) (h₀ : 0 ≤ n) (h₁ : n < 2 ^ 63) : IntKind.i64.wrap n = n := by rw [IntKind.wrap_i64]; omega
theorem or64 (x : Int) (h0 : 0 ≤ x) (h1 : x < 64) : bits .or .u8 x 64 = x + 64 := by
  rw [u8_or x 64 h0 (by omega) (by omega) (by omega), Nat.or_comm]; have := nat_join 6 64 x.toNat (by decide) (by omega); show (((64 ||| x.toNat : Nat)) : Int) = _; omega
theorem or128 (x : Int) (h0 : 0 ≤ x) (h1 : x < 64) : bits .or .u8 x 128 = x + 128 := by
  rw [u8_or x 128 h0 (by omega) (by omega) (by omega), Nat.or_comm]; have := nat_join 6 128 x.toNat (by decide) (by omega); show (((128 ||| x.toNat : Nat)) : Int) = _; omega
theorem or192 (x : Int) (h0 : 0 ≤ x) (h1 : x < 64) : bits .or .u8 x 192 = x + 192 := by
  rw [u8_or x 192 h0 (by omega) (by omega) (by omega), Nat.or_comm]; have := nat_join 6 192 x.toNat (by decide) (by omega); show (((192 ||| x.toNat : Nat)) : Int) = _; omega
theorem or0 (x : Int) (h0 : 0 ≤ x) (h1 : x < 64) : bits .or .u8 x 0 = x := by
  rw [u8_or x 0 h0 (by omega) (by omega) (by omega)]; simp; omega

/-- A number's bytes in a width, as numbers. -/
def pb (n : Int) : Nat → List Int
  | 1 => [n]
  | 2 => [n / 256 + 64, n % 256]
  | 4 => [n / 256 / 256 / 256 + 128, n / 256 / 256 % 256, n / 256 % 256, n % 256]
  | 8 => [n / 256 / 256 / 256 / 256 / 256 / 256 / 256 + 192, n / 256 / 256 / 256 / 256 / 256 / 256 % 256, n / 256 / 256 / 256 / 256 / 256 % 256, n / 256 / 256 / 256 / 256 % 256, n / 256 / 256 / 256 % 256, n / 256 / 256 % 256, n / 256 % 256, n % 256]
  | _ => []

/-- The same as cells. -/
def pbA (n : Int) (W : Nat) : Array Value := ((pb n W).map (Value.int .u8)).toArray

/-- How many numbers a width has room for. -/
def lim : Nat → Int
  | 1 => 64
  | 2 => 16384
  | 4 => 1073741824
  | 8 => 4611686018427387904
  | _ => 0

theorem mk1 : ∀ w : World, (Instr.makeSlice 34 (.int .i64 1) (.int .i64 1)).run Tryz.prog w = .ok (.slice (some ⟨w.heap.size, 0, none⟩) 1 1) (w.alloc (.cells #[.int .u8 0] 5)) := fun _ => by kernel_rfl
theorem mk2 : ∀ w : World, (Instr.makeSlice 34 (.int .i64 2) (.int .i64 2)).run Tryz.prog w = .ok (.slice (some ⟨w.heap.size, 0, none⟩) 2 2) (w.alloc (.cells #[.int .u8 0, .int .u8 0] 5)) := fun _ => by kernel_rfl
theorem mk4 : ∀ w : World, (Instr.makeSlice 34 (.int .i64 4) (.int .i64 4)).run Tryz.prog w = .ok (.slice (some ⟨w.heap.size, 0, none⟩) 4 4) (w.alloc (.cells #[.int .u8 0, .int .u8 0, .int .u8 0, .int .u8 0] 5)) := fun _ => by kernel_rfl
theorem mk8 : ∀ w : World, (Instr.makeSlice 34 (.int .i64 8) (.int .i64 8)).run Tryz.prog w = .ok (.slice (some ⟨w.heap.size, 0, none⟩) 8 8) (w.alloc (.cells #[.int .u8 0, .int .u8 0, .int .u8 0, .int .u8 0, .int .u8 0, .int .u8 0, .int .u8 0, .int .u8 0] 5)) := fun _ => by kernel_rfl

set_option maxHeartbeats 1000000 in
theorem putIn1 (n : Int) (w : World) (hw : Wid w) (h1 : 0 ≤ n) (h2 : n < 64) :
    Calls Tryz.prog 86 #[.int .i64 n, .int .i64 1] w fun e w' => e = .returned (.tuple #[.slice (some ⟨w.heap.size, 0, none⟩) 1 1, .int .i64 0]) ∧ w' = w.alloc (.cells (pbA n 1) 5) := by
  obtain ⟨c0, c1, c2, c3⟩ := hw
  have x0 := wid0
  have m1 := mk1
  have ho : Hid (bits .or .u8 n 0 = n) := or0 n h1 h2
  go_enter Tryz.func86, Tryz.ntmps86
  go_wp2
  go_rounds 5
  go_rounds 2
  go_ret2
  refine ⟨rfl, ?_⟩
  simp [pbA, pb, ho.out]

set_option maxHeartbeats 1000000 in
theorem putIn2 (n : Int) (w : World) (hw : Wid w) (h1 : 0 ≤ n) (h2 : n < 16384) :
    Calls Tryz.prog 86 #[.int .i64 n, .int .i64 2] w fun e w' => e = .returned (.tuple #[.slice (some ⟨w.heap.size, 0, none⟩) 2 2, .int .i64 0]) ∧ w' = w.alloc (.cells (pbA n 2) 5) := by
  obtain ⟨c0, c1, c2, c3⟩ := hw
  have x0 := wid0
  have x1 := wid1
  have m2 := mk2
  have ho : Hid (bits .or .u8 (n / 256) 64 = n / 256 + 64) := or64 (n / 256) (by omega) (by omega)
  go_enter Tryz.func86, Tryz.ntmps86
  go_wp2
  go_rounds 5
  go_rounds 3
  go_ret2
  refine ⟨rfl, ?_⟩
  simp [pbA, pb, ho.out]

set_option maxHeartbeats 1000000 in
theorem putIn4 (n : Int) (w : World) (hw : Wid w) (h1 : 0 ≤ n) (h2 : n < 1073741824) :
    Calls Tryz.prog 86 #[.int .i64 n, .int .i64 4] w fun e w' => e = .returned (.tuple #[.slice (some ⟨w.heap.size, 0, none⟩) 4 4, .int .i64 0]) ∧ w' = w.alloc (.cells (pbA n 4) 5) := by
  obtain ⟨c0, c1, c2, c3⟩ := hw
  have x0 := wid0
  have x1 := wid1
  have x2 := wid2
  have m4 := mk4
  have ho : Hid (bits .or .u8 (n / 256 / 256 / 256) 128 = n / 256 / 256 / 256 + 128) := or128 (n / 256 / 256 / 256) (by omega) (by omega)
  go_enter Tryz.func86, Tryz.ntmps86
  go_wp2
  go_rounds 5
  go_rounds 5
  go_ret2
  refine ⟨rfl, ?_⟩
  simp [pbA, pb, ho.out]

set_option maxHeartbeats 2000000 in
theorem putIn8 (n : Int) (w : World) (hw : Wid w) (h1 : 0 ≤ n) (h2 : n < 4611686018427387904) :
    Calls Tryz.prog 86 #[.int .i64 n, .int .i64 8] w fun e w' => e = .returned (.tuple #[.slice (some ⟨w.heap.size, 0, none⟩) 8 8, .int .i64 0]) ∧ w' = w.alloc (.cells (pbA n 8) 5) := by
  obtain ⟨c0, c1, c2, c3⟩ := hw
  have x0 := wid0
  have x1 := wid1
  have x2 := wid2
  have x3 := wid3
  have m8 := mk8
  have ho : Hid (bits .or .u8 (n / 256 / 256 / 256 / 256 / 256 / 256 / 256) 192 = n / 256 / 256 / 256 / 256 / 256 / 256 / 256 + 192) := or192 _ (by omega) (by omega)
  go_enter Tryz.func86, Tryz.ntmps86
  go_wp2
  go_rounds 5
  go_rounds 9
  go_ret2
  refine ⟨rfl, ?_⟩
  simp [pbA, pb, ho.out]

/-- The four widths. -/
def IsW (W : Nat) : Prop := W = 1 ∨ W = 2 ∨ W = 4 ∨ W = 8

theorem putIn_ok (n : Int) (W : Nat) (w : World) (hW : IsW W) (hw : Wid w) (h1 : 0 ≤ n) (h2 : n < lim W) :
    Calls Tryz.prog 86 #[.int .i64 n, .int .i64 W] w fun e w' => e = .returned (.tuple #[.slice (some ⟨w.heap.size, 0, none⟩) W W, .int .i64 0]) ∧ w' = w.alloc (.cells (pbA n W) 5) := by
  rcases hW with rfl | rfl | rfl | rfl
  · exact putIn1 n w hw h1 h2
  · exact putIn2 n w hw h1 h2
  · exact putIn4 n w hw h1 h2
  · exact putIn8 n w hw h1 h2

theorem lenOf_eq (n : Int) (W : Nat) (h : lenOf n = W) (h0 : W ≠ 0) : IsW W ∧ 0 ≤ n ∧ n < lim W := by
  unfold IsW
  rcases lenOf_cases n with ⟨h1, e⟩ | ⟨h1, h2, e⟩ | ⟨h1, h2, e⟩ | ⟨h1, h2, e⟩ | ⟨h1, h2, e⟩ | ⟨h1, e⟩
  · omega
  · obtain rfl : W = 1 := by omega
    exact ⟨.inl rfl, h1, h2⟩
  · obtain rfl : W = 2 := by omega
    exact ⟨.inr (.inl rfl), by omega, h2⟩
  · obtain rfl : W = 4 := by omega
    exact ⟨.inr (.inr (.inl rfl)), by omega, h2⟩
  · obtain rfl : W = 8 := by omega
    exact ⟨.inr (.inr (.inr rfl)), by omega, h2⟩
  · omega

set_option maxHeartbeats 1000000 in
theorem put_no (n : Int) (w : World) (hw : Wid w) (h : lenOf n = 0) :
    Calls Tryz.prog 66 #[.int .i64 n] w fun e w' => e = .returned (.tuple #[.slice none 0 0, .int .i64 13]) ∧ w' = w := by
  go_enter Tryz.func66, Tryz.ntmps66
  go_wp2_with (go_at_call 85; refine (len_any n _ hw).mono ?_; rintro e w' ⟨rfl, rfl⟩)
  go_ret2
  exact ⟨rfl, rfl⟩

set_option maxHeartbeats 1000000 in
theorem put_ok (n : Int) (W : Nat) (w : World) (hw : Wid w) (h : lenOf n = W) (h0 : W ≠ 0) :
    Calls Tryz.prog 66 #[.int .i64 n] w fun e w' => e = .returned (.tuple #[.slice (some ⟨w.heap.size, 0, none⟩) W W, .int .i64 0]) ∧ w' = w.alloc (.cells (pbA n W) 5) := by
  obtain ⟨hW, h1, h2⟩ := lenOf_eq n W h h0
  have hne : ((W : Int) == 0) = false := by simp; omega
  clear h0
  go_enter Tryz.func66, Tryz.ntmps66
  go_wp2_with (first | (go_at_call 85; refine (len_any n _ hw).mono ?_; rintro e w' ⟨rfl, rfl⟩) | (go_at_call 86; refine (putIn_ok n W _ hW hw h1 h2).mono ?_; rintro e w' ⟨rfl, rfl⟩))
  go_ret2
  exact ⟨rfl, rfl⟩
end Go.Proofs.YtmplpdjkhdaniaaGreatDoor.Fi
