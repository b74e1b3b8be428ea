/-
  Texts on FiLen, FiPut, FiGet, FiRow, FiPutGet, in one.
-/
import Derived.Test.YtdnbiibijoggoaaGreatDoorRows
import Derived.WalkKit
import Derived.WalkSpells
import Derived.Handy
import Derived.Laws.IdiomStrings
namespace Go.Proofs.YtdnbiibijoggoaaGreatDoor.Fi
open Go.RowKit
set_option maxRecDepth 100000

/-- The table of widths, as the walks read it. -/
def Wid (w : World) : Prop :=
  w.cell? ⟨1, 0, none⟩ = some (.int .i64 1) ∧ w.cell? ⟨1, 1, none⟩ = some (.int .i64 2) ∧
  w.cell? ⟨1, 2, none⟩ = some (.int .i64 4) ∧ w.cell? ⟨1, 3, none⟩ = some (.int .i64 8)

/-- The least width of a number, 0 if none has room. -/
def lenOf (n : Int) : Int :=
  if n < 0 then 0 else if n < 64 then 1 else if n < 16384 then 2 else if n < 1073741824 then 4 else if n < 4611686018427387904 then 8 else 0

theorem lenOf_cases (n : Int) :
    (n < 0 ∧ lenOf n = 0) ∨ (0 ≤ n ∧ n < 64 ∧ lenOf n = 1) ∨ (64 ≤ n ∧ n < 16384 ∧ lenOf n = 2) ∨ (16384 ≤ n ∧ n < 1073741824 ∧ lenOf n = 4) ∨
    (1073741824 ≤ n ∧ n < 4611686018427387904 ∧ lenOf n = 8) ∨ (4611686018427387904 ≤ n ∧ lenOf n = 0) := by
  unfold lenOf
  repeat' split
  all_goals omega

/-- The table as a value, and what stands at each place of it. -/
abbrev widV : Value := .agg #[.int .i64 1, .int .i64 2, .int .i64 4, .int .i64 8]
theorem wid0 : ∀ w : World, (Instr.index 133 widV (.int .i64 0)).run Tryz.prog w = .ok (.int .i64 1) w := fun _ => by kernel_rfl
theorem wid1 : ∀ w : World, (Instr.index 133 widV (.int .i64 1)).run Tryz.prog w = .ok (.int .i64 2) w := fun _ => by kernel_rfl
theorem wid2 : ∀ w : World, (Instr.index 133 widV (.int .i64 2)).run Tryz.prog w = .ok (.int .i64 4) w := fun _ => by kernel_rfl
theorem wid3 : ∀ w : World, (Instr.index 133 widV (.int .i64 3)).run Tryz.prog w = .ok (.int .i64 8) w := fun _ => by kernel_rfl

set_option maxHeartbeats 1000000 in
theorem len_any (n : Int) (w : World) (hw : Wid w) :
    Calls Tryz.prog 84 #[.int .i64 n] w fun e w' => e = .returned (.int .i64 (lenOf n)) ∧ w' = w := by
  obtain ⟨c0, c1, c2, c3⟩ := hw
  rcases lenOf_cases n with ⟨h1, h⟩ | ⟨h1, h2, h⟩ | ⟨h1, h2, h⟩ | ⟨h1, h2, h⟩ | ⟨h1, h2, h⟩ | ⟨h1, h⟩
  all_goals
    rw [h]
    clear h
    have x0 := wid0
    have x1 := wid1
    have x2 := wid2
    have x3 := wid3
    go_enter Tryz.func84, Tryz.ntmps84
    go_wp2
    go_rounds 5
    go_ret
    exact ⟨rfl, rfl⟩

set_option maxHeartbeats 1000000 in
theorem rlen_any (n : Int) (w : World) :
    Calls Tryz.prog 87 #[.int .i64 n] w fun e w' => e = .returned (.int .i64 (lenOf n)) ∧ w' = w := by
  rcases lenOf_cases n with ⟨h1, h⟩ | ⟨h1, h2, h⟩ | ⟨h1, h2, h⟩ | ⟨h1, h2, h⟩ | ⟨h1, h2, h⟩ | ⟨h1, h⟩
  all_goals
    rw [h]
    clear h
    go_enter Tryz.func87, Tryz.ntmps87
    go_wp2
    go_rounds 5
    go_ret
    exact ⟨rfl, rfl⟩
end Go.Proofs.YtdnbiibijoggoaaGreatDoor.Fi

namespace Go.Proofs.YtdnbiibijoggoaaGreatDoor.Fi
open Go.RowKit
set_option maxRecDepth 100000

theorem wraps_i64 (n : Int) (h₀ : 0 ≤ n) (h₁ : n < 2 ^ 63) : IntKind.i64.wrap n = n := by rw [IntKind.wrap_i64]; omega
theorem or64 (x : Int) (h0 : 0 ≤ x) (h1 : x < 64) : bits .or .u8 x 64 = x + 64 := by
  rw [u8_or x 64 h0 (by omega) (by omega) (by omega), Nat.or_comm]; have := nat_join 6 64 x.toNat (by decide) (by omega); show (((64 ||| x.toNat : Nat)) : Int) = _; omega
theorem or128 (x : Int) (h0 : 0 ≤ x) (h1 : x < 64) : bits .or .u8 x 128 = x + 128 := by
  rw [u8_or x 128 h0 (by omega) (by omega) (by omega), Nat.or_comm]; have := nat_join 6 128 x.toNat (by decide) (by omega); show (((128 ||| x.toNat : Nat)) : Int) = _; omega
theorem or192 (x : Int) (h0 : 0 ≤ x) (h1 : x < 64) : bits .or .u8 x 192 = x + 192 := by
  rw [u8_or x 192 h0 (by omega) (by omega) (by omega), Nat.or_comm]; have := nat_join 6 192 x.toNat (by decide) (by omega); show (((192 ||| x.toNat : Nat)) : Int) = _; omega
theorem or0 (x : Int) (h0 : 0 ≤ x) (h1 : x < 64) : bits .or .u8 x 0 = x := by
  rw [u8_or x 0 h0 (by omega) (by omega) (by omega)]; simp; omega

/-- A number's bytes in a width, as numbers. -/
def pb (n : Int) : Nat → List Int
  | 1 => [n]
  | 2 => [n / 256 + 64, n % 256]
  | 4 => [n / 256 / 256 / 256 + 128, n / 256 / 256 % 256, n / 256 % 256, n % 256]
  | 8 => [n / 256 / 256 / 256 / 256 / 256 / 256 / 256 + 192, n / 256 / 256 / 256 / 256 / 256 / 256 % 256, n / 256 / 256 / 256 / 256 / 256 % 256, n / 256 / 256 / 256 / 256 % 256, n / 256 / 256 / 256 % 256, n / 256 / 256 % 256, n / 256 % 256, n % 256]
  | _ => []

/-- The same as cells. -/
def pbA (n : Int) (W : Nat) : Array Value := ((pb n W).map (Value.int .u8)).toArray

/-- How many numbers a width has room for. -/
def lim : Nat → Int
  | 1 => 64
  | 2 => 16384
  | 4 => 1073741824
  | 8 => 4611686018427387904
  | _ => 0

theorem mk1 : ∀ w : World, (Instr.makeSlice 34 (.int .i64 1) (.int .i64 1)).run Tryz.prog w = .ok (.slice (some ⟨w.heap.size, 0, none⟩) 1 1) (w.alloc (.cells #[.int .u8 0] 5)) := fun _ => by kernel_rfl
theorem mk2 : ∀ w : World, (Instr.makeSlice 34 (.int .i64 2) (.int .i64 2)).run Tryz.prog w = .ok (.slice (some ⟨w.heap.size, 0, none⟩) 2 2) (w.alloc (.cells #[.int .u8 0, .int .u8 0] 5)) := fun _ => by kernel_rfl
theorem mk4 : ∀ w : World, (Instr.makeSlice 34 (.int .i64 4) (.int .i64 4)).run Tryz.prog w = .ok (.slice (some ⟨w.heap.size, 0, none⟩) 4 4) (w.alloc (.cells #[.int .u8 0, .int .u8 0, .int .u8 0, .int .u8 0] 5)) := fun _ => by kernel_rfl
theorem mk8 : ∀ w : World, (Instr.makeSlice 34 (.int .i64 8) (.int .i64 8)).run Tryz.prog w = .ok (.slice (some ⟨w.heap.size, 0, none⟩) 8 8) (w.alloc (.cells #[.int .u8 0, .int .u8 0, .int .u8 0, .int .u8 0, .int .u8 0, .int .u8 0, .int .u8 0, .int .u8 0] 5)) := fun _ => by kernel_rfl

set_option maxHeartbeats 1000000 in
theorem putIn1 (n : Int) (w : World) (hw : Wid w) (h1 : 0 ≤ n) (h2 : n < 64) :
    Calls Tryz.prog 85 #[.int .i64 n, .int .i64 1] w fun e w' => e = .returned (.tuple #[.slice (some ⟨w.heap.size, 0, none⟩) 1 1, .int .i64 0]) ∧ w' = w.alloc (.cells (pbA n 1) 5) := by
  obtain ⟨c0, c1, c2, c3⟩ := hw
  have x0 := wid0
  have m1 := mk1
  have ho : Hid (bits .or .u8 n 0 = n) := or0 n h1 h2
  go_enter Tryz.func85, Tryz.ntmps85
  go_wp2
  go_rounds 5
  go_rounds 2
  go_ret2
  refine ⟨rfl, ?_⟩
  simp [pbA, pb, ho.out]

set_option maxHeartbeats 1000000 in
theorem putIn2 (n : Int) (w : World) (hw : Wid w) (h1 : 0 ≤ n) (h2 : n < 16384) :
    Calls Tryz.prog 85 #[.int .i64 n, .int .i64 2] w fun e w' => e = .returned (.tuple #[.slice (some ⟨w.heap.size, 0, none⟩) 2 2, .int .i64 0]) ∧ w' = w.alloc (.cells (pbA n 2) 5) := by
  obtain ⟨c0, c1, c2, c3⟩ := hw
  have x0 := wid0
  have x1 := wid1
  have m2 := mk2
  have ho : Hid (bits .or .u8 (n / 256) 64 = n / 256 + 64) := or64 (n / 256) (by omega) (by omega)
  go_enter Tryz.func85, Tryz.ntmps85
  go_wp2
  go_rounds 5
  go_rounds 3
  go_ret2
  refine ⟨rfl, ?_⟩
  simp [pbA, pb, ho.out]

set_option maxHeartbeats 1000000 in
theorem putIn4 (n : Int) (w : World) (hw : Wid w) (h1 : 0 ≤ n) (h2 : n < 1073741824) :
    Calls Tryz.prog 85 #[.int .i64 n, .int .i64 4] w fun e w' => e = .returned (.tuple #[.slice (some ⟨w.heap.size, 0, none⟩) 4 4, .int .i64 0]) ∧ w' = w.alloc (.cells (pbA n 4) 5) := by
  obtain ⟨c0, c1, c2, c3⟩ := hw
  have x0 := wid0
  have x1 := wid1
  have x2 := wid2
  have m4 := mk4
  have ho : Hid (bits .or .u8 (n / 256 / 256 / 256) 128 = n / 256 / 256 / 256 + 128) := or128 (n / 256 / 256 / 256) (by omega) (by omega)
  go_enter Tryz.func85, Tryz.ntmps85
  go_wp2
  go_rounds 5
  go_rounds 5
  go_ret2
  refine ⟨rfl, ?_⟩
  simp [pbA, pb, ho.out]

set_option maxHeartbeats 2000000 in
theorem putIn8 (n : Int) (w : World) (hw : Wid w) (h1 : 0 ≤ n) (h2 : n < 4611686018427387904) :
    Calls Tryz.prog 85 #[.int .i64 n, .int .i64 8] w fun e w' => e = .returned (.tuple #[.slice (some ⟨w.heap.size, 0, none⟩) 8 8, .int .i64 0]) ∧ w' = w.alloc (.cells (pbA n 8) 5) := by
  obtain ⟨c0, c1, c2, c3⟩ := hw
  have x0 := wid0
  have x1 := wid1
  have x2 := wid2
  have x3 := wid3
  have m8 := mk8
  have ho : Hid (bits .or .u8 (n / 256 / 256 / 256 / 256 / 256 / 256 / 256) 192 = n / 256 / 256 / 256 / 256 / 256 / 256 / 256 + 192) := or192 _ (by omega) (by omega)
  go_enter Tryz.func85, Tryz.ntmps85
  go_wp2
  go_rounds 5
  go_rounds 9
  go_ret2
  refine ⟨rfl, ?_⟩
  simp [pbA, pb, ho.out]

/-- The four widths. -/
def IsW (W : Nat) : Prop := W = 1 ∨ W = 2 ∨ W = 4 ∨ W = 8

theorem putIn_ok (n : Int) (W : Nat) (w : World) (hW : IsW W) (hw : Wid w) (h1 : 0 ≤ n) (h2 : n < lim W) :
    Calls Tryz.prog 85 #[.int .i64 n, .int .i64 W] w fun e w' => e = .returned (.tuple #[.slice (some ⟨w.heap.size, 0, none⟩) W W, .int .i64 0]) ∧ w' = w.alloc (.cells (pbA n W) 5) := by
  rcases hW with rfl | rfl | rfl | rfl
  · exact putIn1 n w hw h1 h2
  · exact putIn2 n w hw h1 h2
  · exact putIn4 n w hw h1 h2
  · exact putIn8 n w hw h1 h2

set_option maxHeartbeats 2000000 in
theorem putIn_range (n : Int) (W : Nat) (w : World) (hW : IsW W) (hw : Wid w) (h : n < 0 ∨ lim W ≤ n) :
    Calls Tryz.prog 85 #[.int .i64 n, .int .i64 W] w fun e w' => e = .returned (.tuple #[.slice none 0 0, .int .i64 13]) ∧ w' = w := by
  have step : ∀ x : Int, (x = 1 ∧ (n < 0 ∨ 64 ≤ n)) ∨ (x = 2 ∧ (n < 0 ∨ 16384 ≤ n)) ∨ (x = 4 ∧ (n < 0 ∨ 1073741824 ≤ n)) ∨ (x = 8 ∧ (n < 0 ∨ 4611686018427387904 ≤ n)) →
      Calls Tryz.prog 85 #[.int .i64 n, .int .i64 x] w fun e w' => e = .returned (.tuple #[.slice none 0 0, .int .i64 13]) ∧ w' = w := by
    intro x hx
    clear h hW
    obtain ⟨c0, c1, c2, c3⟩ := hw
    have x0 := wid0
    have x1 := wid1
    have x2 := wid2
    have x3 := wid3
    rcases hx with ⟨rfl, h | h⟩ | ⟨rfl, h | h⟩ | ⟨rfl, h | h⟩ | ⟨rfl, h | h⟩
    all_goals
      try have hb : decide (n < 64) = false := by simpa using h
      try have hb : decide (n < 16384) = false := by simpa using h
      try have hb : decide (n < 1073741824) = false := by simpa using h
      try have hb : decide (n < 4611686018427387904) = false := by simpa using h
      go_enter Tryz.func85, Tryz.ntmps85
      go_wp2
      go_rounds 5
      go_ret2
      exact ⟨rfl, rfl⟩
  rcases hW with rfl | rfl | rfl | rfl
  · exact step 1 (.inl ⟨rfl, h⟩)
  · exact step 2 (.inr (.inl ⟨rfl, h⟩))
  · exact step 4 (.inr (.inr (.inl ⟨rfl, h⟩)))
  · exact step 8 (.inr (.inr (.inr ⟨rfl, h⟩)))

set_option maxHeartbeats 2000000 in
theorem putIn_arg (n x : Int) (w : World) (hw : Wid w) (h1 : x ≠ 1) (h2 : x ≠ 2) (h4 : x ≠ 4) (h8 : x ≠ 8) :
    Calls Tryz.prog 85 #[.int .i64 n, .int .i64 x] w fun e w' => e = .returned (.tuple #[.slice none 0 0, .int .i64 2]) ∧ w' = w := by
  obtain ⟨c0, c1, c2, c3⟩ := hw
  have x0 := wid0
  have x1 := wid1
  have x2 := wid2
  have x3 := wid3
  have y1 : ((1 : Int) == x) = false := by simp; omega
  have y2 : ((2 : Int) == x) = false := by simp; omega
  have y4 : ((4 : Int) == x) = false := by simp; omega
  have y8 : ((8 : Int) == x) = false := by simp; omega
  clear h1 h2 h4 h8
  go_enter Tryz.func85, Tryz.ntmps85
  go_wp2
  go_rounds 5
  go_ret2
  exact ⟨rfl, rfl⟩

theorem lenOf_eq (n : Int) (W : Nat) (h : lenOf n = W) (h0 : W ≠ 0) : IsW W ∧ 0 ≤ n ∧ n < lim W := by
  unfold IsW
  rcases lenOf_cases n with ⟨h1, e⟩ | ⟨h1, h2, e⟩ | ⟨h1, h2, e⟩ | ⟨h1, h2, e⟩ | ⟨h1, h2, e⟩ | ⟨h1, e⟩
  · omega
  · obtain rfl : W = 1 := by omega
    exact ⟨.inl rfl, h1, h2⟩
  · obtain rfl : W = 2 := by omega
    exact ⟨.inr (.inl rfl), by omega, h2⟩
  · obtain rfl : W = 4 := by omega
    exact ⟨.inr (.inr (.inl rfl)), by omega, h2⟩
  · obtain rfl : W = 8 := by omega
    exact ⟨.inr (.inr (.inr rfl)), by omega, h2⟩
  · omega

set_option maxHeartbeats 1000000 in
theorem put_no (n : Int) (w : World) (hw : Wid w) (h : lenOf n = 0) :
    Calls Tryz.prog 56 #[.int .i64 n] w fun e w' => e = .returned (.tuple #[.slice none 0 0, .int .i64 13]) ∧ w' = w := by
  go_enter Tryz.func56, Tryz.ntmps56
  go_wp2_with (go_at_call 84; refine (len_any n _ hw).mono ?_; rintro e w' ⟨rfl, rfl⟩)
  go_ret2
  exact ⟨rfl, rfl⟩

set_option maxHeartbeats 1000000 in
theorem put_ok (n : Int) (W : Nat) (w : World) (hw : Wid w) (h : lenOf n = W) (h0 : W ≠ 0) :
    Calls Tryz.prog 56 #[.int .i64 n] w fun e w' => e = .returned (.tuple #[.slice (some ⟨w.heap.size, 0, none⟩) W W, .int .i64 0]) ∧ w' = w.alloc (.cells (pbA n W) 5) := by
  obtain ⟨hW, h1, h2⟩ := lenOf_eq n W h h0
  have hne : ((W : Int) == 0) = false := by simp; omega
  clear h0
  go_enter Tryz.func56, Tryz.ntmps56
  go_wp2_with (first | (go_at_call 84; refine (len_any n _ hw).mono ?_; rintro e w' ⟨rfl, rfl⟩) | (go_at_call 85; refine (putIn_ok n W _ hW hw h1 h2).mono ?_; rintro e w' ⟨rfl, rfl⟩))
  go_ret2
  exact ⟨rfl, rfl⟩
end Go.Proofs.YtdnbiibijoggoaaGreatDoor.Fi

namespace Go.Proofs.YtdnbiibijoggoaaGreatDoor.Fi
open Go.RowKit
set_option maxRecDepth 100000

set_option maxHeartbeats 1000000 in
theorem get_empty (a : Option Addr) (cap : Nat) (w : World) :
    Calls Tryz.prog 110 #[.slice a 0 cap] w fun e w' => e = .returned (.tuple #[.int .i64 0, .int .i64 0, .int .i64 3]) ∧ w' = w := by
  go_enter Tryz.func110, Tryz.ntmps110
  go_wp2
  go_ret3
  exact ⟨rfl, rfl⟩

set_option maxHeartbeats 1000000 in
theorem get_cut (b off len cap : Nat) (z : Int) (w : World) (hw : Wid w) (hm : len ≤ maxLen) (hp : 0 < len) (hc : w.cell? ⟨b, off, none⟩ = some (.int .u8 z)) (k : Nat) (hz : z / 64 = k) (h0 : 0 ≤ z) (h1 : z < 256) (hl : len < 2 ^ k) :
    Calls Tryz.prog 110 #[.slice (some ⟨b, off, none⟩) len cap] w fun e w' => e = .returned (.tuple #[.int .i64 0, .int .i64 0, .int .i64 3]) ∧ w' = w := by
  obtain ⟨c0, c1, c2, c3⟩ := hw
  unfold maxLen at hm
  have hne : ((len : Int) == 0) = false := by simp; omega
  have hk : k = 0 ∨ k = 1 ∨ k = 2 ∨ k = 3 := by omega
  rcases hk with rfl | rfl | rfl | rfl
  all_goals
    simp at hz hl
  · omega
  all_goals
    go_enter Tryz.func110, Tryz.ntmps110
    go_wp2
    go_ret3
    exact ⟨rfl, rfl⟩

/-- The number that k + 1 bytes say, the first one without its mark. -/
def gval (zs : List Int) : Nat → Int
  | 0 => zs.getD 0 0 % 64
  | k + 1 => gval zs k * 256 + zs.getD (k + 1) 0

theorem gval_bd (zs : List Int) (hb : ∀ i, 0 ≤ zs.getD i 0 ∧ zs.getD i 0 < 256) (k : Nat) : 0 ≤ gval zs k ∧ gval zs k < 64 * 256 ^ k := by
  induction k with
  | zero => simp only [gval]; omega
  | succ k ih =>
    have := hb (k + 1)
    simp only [gval]
    have e : (256 : Int) ^ (k + 1) = 256 ^ k * 256 := Int.pow_succ 256 k
    rw [e]
    omega

theorem gval_lt (zs : List Int) (hb : ∀ i, 0 ≤ zs.getD i 0 ∧ zs.getD i 0 < 256) (k : Nat) (hk : k < 7) : 0 ≤ gval zs k ∧ gval zs k < 18014398509481984 := by
  have h := gval_bd zs hb k
  have : (64 * 256 ^ k : Int) ≤ 18014398509481984 := by
    match k, hk with
    | 0, _ => decide
    | 1, _ => decide
    | 2, _ => decide
    | 3, _ => decide
    | 4, _ => decide
    | 5, _ => decide
    | 6, _ => decide
  omega

theorem or_join (x y : Int) (h0 : 0 ≤ x) (h1 : x < 18014398509481984) (h2 : 0 ≤ y) (h3 : y < 256) : bits .or .i64 (x * 256) y = x * 256 + y :=
  bits_join .i64 63 (by decide) wraps_i64 8 _ _ (by omega) (by omega) (by omega) h2 (by omega) (by omega)

set_option maxHeartbeats 2000000 in
theorem get_ok (b off len cap : Nat) (zs : List Int) (w : World) (hw : Wid w) (hlc : len ≤ cap) (hm : cap ≤ maxLen)
    (hc : ∀ i, i < len → w.cell? ⟨b, off + i, none⟩ = some (.int .u8 (zs.getD i 0))) (hb : ∀ i, 0 ≤ zs.getD i 0 ∧ zs.getD i 0 < 256)
    (k : Nat) (hz : zs.getD 0 0 / 64 = k) (hl : 2 ^ k ≤ len) :
    Calls Tryz.prog 110 #[.slice (some ⟨b, off, none⟩) len cap] w fun e w' => e = .returned (.tuple #[.int .i64 (gval zs (2 ^ k - 1)), .int .i64 (2 ^ k : Nat), .int .i64 0]) ∧ w' = w := by
  obtain ⟨c0, c1, c2, c3⟩ := hw
  unfold maxLen at hm
  obtain ⟨h0, h1⟩ := hb 0
  have hp : 0 < len := Nat.lt_of_lt_of_le (Nat.two_pow_pos k) hl
  have hcz : w.cell? ⟨b, off, none⟩ = some (.int .u8 (zs.getD 0 0)) := hc 0 hp
  obtain ⟨z, hz'⟩ : ∃ z, zs.getD 0 0 = z := ⟨_, rfl⟩
  have hg0 : gval zs 0 = z % 64 := by rw [← hz']; rfl
  rw [hz'] at h0 h1 hz hcz
  clear hz'
  have hne : ((len : Int) == 0) = false := by simp; omega
  have hk : k = 0 ∨ k = 1 ∨ k = 2 ∨ k = 3 := by omega
  have HC : Hid (∀ i, i < len → w.cell? ⟨b, off + i, none⟩ = some (.int .u8 (zs.getD i 0))) := hc
  have HB : Hid (∀ i, 0 ≤ zs.getD i 0 ∧ zs.getD i 0 < 256) := hb
  have HG : Hid (gval zs 0 = z % 64) := hg0
  clear hc hb hg0
  rcases hk with rfl | rfl | rfl | rfl
  · simp at hz hl
    rw [show gval zs (2 ^ 0 - 1) = z % 64 from HG.out]
    go_enter Tryz.func110, Tryz.ntmps110
    go_wp2
    all_goals
      go_rounds 1
      go_ret3
      exact ⟨rfl, rfl⟩
  · simp at hz hl
    go_enter Tryz.func110, Tryz.ntmps110
    go_wp2
    go_loop [2, 29] (fun n i => ∃ j : Nat, j ≤ 1 ∧ i = .int .i64 j ∧ n = .int .i64 (gval zs j)) (fun _ i => 8 - (intOf i).toNat)
    case atStart => exact ⟨0, by omega, rfl, by rw [HG.out]⟩
    case round =>
      obtain ⟨j, hj, rfl, rfl⟩ := hrel
      by_cases hlt : j < 1
      · have hcx : w.cell? ⟨b, off + 1 + j, none⟩ = some (.int .u8 (zs.getD (j + 1) 0)) := by rw [show off + 1 + j = off + (j + 1) by omega]; exact HC.out _ (by omega)
        obtain ⟨g0, g1⟩ := gval_lt zs HB.out j (by omega)
        obtain ⟨b0, b1⟩ := HB.out (j + 1)
        obtain ⟨y, hy⟩ : ∃ y, zs.getD (j + 1) 0 = y := ⟨_, rfl⟩
        have HY : Hid (gval zs (j + 1) = gval zs j * 256 + y) := by rw [← hy]; rfl
        rw [hy] at hcx b0 b1
        clear hy
        have ho := or_join (gval zs j) y g0 g1 b0 b1
        go_wp2
        go_round
        case rel => exact ⟨j + 1, by omega, by go_num, by rw [HY.out]⟩
        case measure => simp [intOf]; omega
      · obtain rfl : j = 1 := by omega
        go_wp2
        go_ret3
        exact ⟨rfl, rfl⟩
  · simp at hz hl
    go_enter Tryz.func110, Tryz.ntmps110
    go_wp2
    go_loop [2, 29] (fun n i => ∃ j : Nat, j ≤ 3 ∧ i = .int .i64 j ∧ n = .int .i64 (gval zs j)) (fun _ i => 8 - (intOf i).toNat)
    case atStart => exact ⟨0, by omega, rfl, by rw [HG.out]⟩
    case round =>
      obtain ⟨j, hj, rfl, rfl⟩ := hrel
      by_cases hlt : j < 3
      · have hcx : w.cell? ⟨b, off + 1 + j, none⟩ = some (.int .u8 (zs.getD (j + 1) 0)) := by rw [show off + 1 + j = off + (j + 1) by omega]; exact HC.out _ (by omega)
        obtain ⟨g0, g1⟩ := gval_lt zs HB.out j (by omega)
        obtain ⟨b0, b1⟩ := HB.out (j + 1)
        obtain ⟨y, hy⟩ : ∃ y, zs.getD (j + 1) 0 = y := ⟨_, rfl⟩
        have HY : Hid (gval zs (j + 1) = gval zs j * 256 + y) := by rw [← hy]; rfl
        rw [hy] at hcx b0 b1
        clear hy
        have ho := or_join (gval zs j) y g0 g1 b0 b1
        go_wp2
        go_round
        case rel => exact ⟨j + 1, by omega, by go_num, by rw [HY.out]⟩
        case measure => simp [intOf]; omega
      · obtain rfl : j = 3 := by omega
        go_wp2
        go_ret3
        exact ⟨rfl, rfl⟩
  · simp at hz hl
    go_enter Tryz.func110, Tryz.ntmps110
    go_wp2
    go_loop [2, 29] (fun n i => ∃ j : Nat, j ≤ 7 ∧ i = .int .i64 j ∧ n = .int .i64 (gval zs j)) (fun _ i => 8 - (intOf i).toNat)
    case atStart => exact ⟨0, by omega, rfl, by rw [HG.out]⟩
    case round =>
      obtain ⟨j, hj, rfl, rfl⟩ := hrel
      by_cases hlt : j < 7
      · have hcx : w.cell? ⟨b, off + 1 + j, none⟩ = some (.int .u8 (zs.getD (j + 1) 0)) := by rw [show off + 1 + j = off + (j + 1) by omega]; exact HC.out _ (by omega)
        obtain ⟨g0, g1⟩ := gval_lt zs HB.out j (by omega)
        obtain ⟨b0, b1⟩ := HB.out (j + 1)
        obtain ⟨y, hy⟩ : ∃ y, zs.getD (j + 1) 0 = y := ⟨_, rfl⟩
        have HY : Hid (gval zs (j + 1) = gval zs j * 256 + y) := by rw [← hy]; rfl
        rw [hy] at hcx b0 b1
        clear hy
        have ho := or_join (gval zs j) y g0 g1 b0 b1
        go_wp2
        go_round
        case rel => exact ⟨j + 1, by omega, by go_num, by rw [HY.out]⟩
        case measure => simp [intOf]; omega
      · obtain rfl : j = 7 := by omega
        go_wp2
        go_ret3
        exact ⟨rfl, rfl⟩

/-- What the walks ask of a slice of bytes: it is empty, or its first 'len' cells hold the numbers zs, each a byte. -/
def Row (w : World) (a : Option Addr) (len cap : Nat) (zs : List Int) : Prop :=
  len = 0 ∨ (0 < len ∧ ∃ b off, a = some ⟨b, off, none⟩ ∧ len ≤ cap ∧ cap ≤ maxLen ∧
    (∀ i, i < len → w.cell? ⟨b, off + i, none⟩ = some (.int .u8 (zs.getD i 0))) ∧ (∀ i, 0 ≤ zs.getD i 0 ∧ zs.getD i 0 < 256))

/-- Which of the widths the first byte's mark says. -/
def gk (zs : List Int) : Nat := (zs.getD 0 0 / 64).toNat

/-- What Get answers: number, width, error. -/
def getN (len : Nat) (zs : List Int) : Int := if len < 2 ^ gk zs ∨ len = 0 then 0 else gval zs (2 ^ gk zs - 1)
def getU (len : Nat) (zs : List Int) : Int := if len < 2 ^ gk zs ∨ len = 0 then 0 else (2 ^ gk zs : Nat)
def getE (len : Nat) (zs : List Int) : Int := if len < 2 ^ gk zs ∨ len = 0 then 3 else 0

theorem get_any (a : Option Addr) (len cap : Nat) (zs : List Int) (w : World) (hw : Wid w) (hr : Row w a len cap zs) :
    Calls Tryz.prog 110 #[.slice a len cap] w fun e w' => e = .returned (.tuple #[.int .i64 (getN len zs), .int .i64 (getU len zs), .int .i64 (getE len zs)]) ∧ w' = w := by
  unfold getN getU getE
  rcases hr with rfl | ⟨hp, b, off, rfl, hlc, hm, hc, hb⟩
  · rw [if_pos (.inr rfl), if_pos (.inr rfl), if_pos (.inr rfl)]
    exact get_empty a cap w
  · obtain ⟨h0, h1⟩ := hb 0
    have hz : zs.getD 0 0 / 64 = (gk zs : Nat) := by unfold gk; omega
    by_cases hl : len < 2 ^ gk zs
    · rw [if_pos (.inl hl), if_pos (.inl hl), if_pos (.inl hl)]
      exact get_cut b off len cap _ w hw (by omega) hp (hc 0 hp) (gk zs) hz h0 h1 hl
    · rw [if_neg (by omega), if_neg (by omega), if_neg (by omega)]
      exact get_ok b off len cap zs w hw hlc hm hc hb (gk zs) hz (by omega)

/-- What Shortest answers. -/
def shN (len : Nat) (zs : List Int) : Int := if getE len zs = 0 ∧ getU len zs ≤ lenOf (getN len zs) then getN len zs else 0
def shU (len : Nat) (zs : List Int) : Int := if getE len zs = 0 ∧ getU len zs ≤ lenOf (getN len zs) then getU len zs else 0
def shE (len : Nat) (zs : List Int) : Int := if getE len zs = 0 then (if getU len zs ≤ lenOf (getN len zs) then 0 else 4) else getE len zs

set_option maxHeartbeats 1000000 in
theorem shortest_any (a : Option Addr) (len cap : Nat) (zs : List Int) (w : World) (hw : Wid w) (hr : Row w a len cap zs) :
    Calls Tryz.prog 90 #[.slice a len cap] w fun e w' => e = .returned (.tuple #[.int .i64 (shN len zs), .int .i64 (shU len zs), .int .i64 (shE len zs)]) ∧ w' = w := by
  unfold shN shU shE
  have hg := get_any a len cap zs w hw hr
  generalize getN len zs = n at *
  generalize getU len zs = u at *
  generalize getE len zs = g at *
  by_cases h : g = 0
  · subst h
    by_cases h2 : u ≤ lenOf n
    · rw [if_pos ⟨rfl, h2⟩, if_pos ⟨rfl, h2⟩, if_pos rfl, if_pos h2]
      go_enter Tryz.func90, Tryz.ntmps90
      go_wp2_with (first | (go_at_call 110; refine hg.mono ?_; rintro e w' ⟨rfl, rfl⟩) | (go_at_call 84; refine (len_any n _ hw).mono ?_; rintro e w' ⟨rfl, rfl⟩))
      go_ret3
      exact ⟨rfl, rfl⟩
    · have h3 : lenOf n < u := by omega
      rw [if_neg (by omega), if_neg (by omega), if_pos rfl, if_neg h2]
      go_enter Tryz.func90, Tryz.ntmps90
      go_wp2_with (first | (go_at_call 110; refine hg.mono ?_; rintro e w' ⟨rfl, rfl⟩) | (go_at_call 84; refine (len_any n _ hw).mono ?_; rintro e w' ⟨rfl, rfl⟩))
      go_ret3
      exact ⟨rfl, rfl⟩
  · have h' : (g == 0) = false := by simpa using h
    rw [if_neg (by omega), if_neg (by omega), if_neg h]
    go_enter Tryz.func90, Tryz.ntmps90
    go_wp2_with (first | (go_at_call 110; refine hg.mono ?_; rintro e w' ⟨rfl, rfl⟩) | (go_at_call 84; refine (len_any n _ hw).mono ?_; rintro e w' ⟨rfl, rfl⟩))
    go_ret3
    exact ⟨rfl, rfl⟩
end Go.Proofs.YtdnbiibijoggoaaGreatDoor.Fi

namespace Go.Proofs.YtdnbiibijoggoaaGreatDoor.Fi
open Go.RowKit
set_option maxRecDepth 100000

theorem Wid.pos {w : World} (h : Wid w) : 1 < w.heap.size := World.block_lt_of_cell? w _ h.1
theorem Wid.below {w w' : World} {B : Nat} (h : Wid w) (hb : Below B w w') (hB : 1 < B) : Wid w' := by
  obtain ⟨c0, c1, c2, c3⟩ := h
  exact ⟨(hb.cell (p := ⟨1, 0, none⟩) hB).trans c0, (hb.cell (p := ⟨1, 1, none⟩) hB).trans c1, (hb.cell (p := ⟨1, 2, none⟩) hB).trans c2, (hb.cell (p := ⟨1, 3, none⟩) hB).trans c3⟩
theorem Wid.alloc {w : World} (h : Wid w) (o : Obj) : Wid (w.alloc o) := h.below ((Below.refl w.heap.size w).alloc (Nat.le_refl _) o) h.pos

/-- Bytes, given as numbers, as a string. -/
def strB (l : List Int) : ByteArray := ⟨(l.map fun n => UInt8.ofNat n.toNat).toArray⟩

theorem conv_any (a : Option Addr) (len cap : Nat) (zs : List Int) (w : World) (hz : len ≤ zs.length) (hr : Row w a len cap zs) :
    (convert 34 9 (.slice a len cap)).run Tryz.prog w = .ok (.string (strB (zs.take len))) w := by
  rcases hr with rfl | ⟨hp, b, off, rfl, hlc, hm, hc, hb⟩
  · cases a with
    | none => rw [run_convert_bytes_string w 34 9 5 none 0 cap Tryz.underlying34 Tryz.underlying5 Tryz.underlying9]; rfl
    | some a => exact run_convert_bytes_back (P := Tryz.prog) w 34 9 5 a cap [] Tryz.underlying34 Tryz.underlying5 Tryz.underlying9 (fun j hj => by simp at hj)
  · have hlen : ((zs.take len).map fun n => UInt8.ofNat n.toNat).length = len := by simp; omega
    have h := run_convert_bytes_back (P := Tryz.prog) w 34 9 5 ⟨b, off, none⟩ cap ((zs.take len).map fun n => UInt8.ofNat n.toNat) Tryz.underlying34 Tryz.underlying5 Tryz.underlying9 (fun j hj => by
      rw [hlen] at hj
      rw [Addr.add_lit, hc j hj]
      have hbj := hb j
      have e : zs.getD j 0 = zs[j]'(by omega) := by simp [List.getD, List.getElem?_eq_getElem (show j < zs.length by omega)]
      rw [e] at hbj ⊢
      simp only [List.getElem_map, List.getElem_take]
      congr 2
      simp only [UInt8.toNat_ofNat']
      omega)
    rw [hlen] at h
    exact h

theorem row_new (w : World) (zs : List Int) (hb : ∀ i, 0 ≤ zs.getD i 0 ∧ zs.getD i 0 < 256) (hm : zs.length ≤ maxLen) :
    Row (w.alloc (.cells (zs.map (Value.int .u8)).toArray 5)) (some ⟨w.heap.size, 0, none⟩) zs.length zs.length zs := by
  rcases Nat.eq_zero_or_pos zs.length with h | h
  · exact .inl h
  · refine .inr ⟨h, w.heap.size, 0, rfl, Nat.le_refl _, hm, fun i hi => ?_, hb⟩
    rw [World.cell?_alloc_at _ _ _ _ rfl]
    simp [hi]

theorem Row.below {w w' : World} {B : Nat} {a : Option Addr} {len cap : Nat} {zs : List Int} (h : Row w a len cap zs) (hb : Below B w w') (hB : ∀ b, a = some b → b.block < B) : Row w' a len cap zs := by
  rcases h with h | ⟨hp, b, off, rfl, hlc, hm, hc, hz⟩
  · exact .inl h
  · exact .inr ⟨hp, b, off, rfl, hlc, hm, fun i hi => (hb.cell (p := ⟨b, off + i, none⟩) (show b < B from hB ⟨b, off, none⟩ rfl)).trans (hc i hi), hz⟩

theorem byteList (zs : List Int) (h : zs.all (fun z => 0 ≤ z && z < 256) = true) : ∀ i, 0 ≤ zs.getD i 0 ∧ zs.getD i 0 < 256 := by
  intro i
  by_cases hi : i < zs.length
  · have := List.all_eq_true.1 h zs[i] (List.getElem_mem hi)
    simp at this
    simpa [List.getD, List.getElem?_eq_getElem hi] using this
  · simp [List.getD, List.getElem?_eq_none (show zs.length ≤ i by omega)]
end Go.Proofs.YtdnbiibijoggoaaGreatDoor.Fi

namespace Go.Proofs.YtdnbiibijoggoaaGreatDoor.Fi
open Go.RowKit
set_option maxRecDepth 100000

theorem pb_len (n : Int) (W : Nat) (hW : IsW W) : (pb n W).length = W := by
  rcases hW with rfl | rfl | rfl | rfl <;> rfl

theorem pb_bytes (n : Int) (W : Nat) (hW : IsW W) (h1 : 0 ≤ n) (h2 : n < lim W) : ∀ i, 0 ≤ (pb n W).getD i 0 ∧ (pb n W).getD i 0 < 256 := by
  refine byteList _ ?_
  rcases hW with rfl | rfl | rfl | rfl
  all_goals
    simp only [lim] at h2
    simp only [pb, List.all_cons, List.all_nil, Bool.and_eq_true, decide_eq_true_eq, and_true]
    omega

theorem pb_gk (n : Int) (W : Nat) (hW : IsW W) (h1 : 0 ≤ n) (h2 : n < lim W) : 2 ^ gk (pb n W) = W := by
  rcases hW with rfl | rfl | rfl | rfl
  · have : gk (pb n 1) = 0 := by unfold gk; simp only [lim] at h2; simp only [pb, List.getD_cons_zero]; omega
    rw [this]
  · have : gk (pb n 2) = 1 := by unfold gk; simp only [lim] at h2; simp only [pb, List.getD_cons_zero]; omega
    rw [this]
  · have : gk (pb n 4) = 2 := by unfold gk; simp only [lim] at h2; simp only [pb, List.getD_cons_zero]; omega
    rw [this]
  · have : gk (pb n 8) = 3 := by unfold gk; simp only [lim] at h2; simp only [pb, List.getD_cons_zero]; omega
    rw [this]

theorem gval_take (xs ys : List Int) (k : Nat) (h : ∀ i, i ≤ k → xs.getD i 0 = ys.getD i 0) : gval xs k = gval ys k := by
  induction k with
  | zero => simp only [gval]; rw [h 0 (Nat.le_refl _)]
  | succ k ih => simp only [gval]; rw [ih (fun i hi => h i (by omega)), h (k + 1) (Nat.le_refl _)]

theorem pb_gval (n : Int) (W : Nat) (hW : IsW W) (h1 : 0 ≤ n) (h2 : n < lim W) : gval (pb n W) (W - 1) = n := by
  rcases hW with rfl | rfl | rfl | rfl
  all_goals
    simp only [lim] at h2
    simp only [pb, gval, Nat.reduceSub, List.getD_cons_zero, List.getD_cons_succ]
    omega

theorem row_put (n : Int) (W : Nat) (w : World) (hW : IsW W) (h1 : 0 ≤ n) (h2 : n < lim W) : Row (w.alloc (.cells (pbA n W) 5)) (some ⟨w.heap.size, 0, none⟩) W W (pb n W) := by
  have := row_new w (pb n W) (pb_bytes n W hW h1 h2) (by rw [pb_len n W hW]; unfold maxLen; rcases hW with rfl | rfl | rfl | rfl <;> omega)
  rw [pb_len n W hW] at this
  exact this

theorem Row.cut {w : World} {a : Option Addr} {len cap : Nat} {zs : List Int} (h : Row w a len cap zs) (m : Nat) (hm : m ≤ len) : Row w a m cap zs := by
  rcases Nat.eq_zero_or_pos m with h0 | h0
  · exact .inl h0
  · rcases h with h | ⟨hp, b, off, rfl, hlc, hx, hc, hz⟩
    · omega
    · exact .inr ⟨h0, b, off, rfl, by omega, hx, fun i hi => hc i (by omega), hz⟩
end Go.Proofs.YtdnbiibijoggoaaGreatDoor.Fi
