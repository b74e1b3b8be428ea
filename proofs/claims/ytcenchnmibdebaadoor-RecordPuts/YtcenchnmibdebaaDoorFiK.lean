/-
  What varint.Len and the document's Len answer for a number: the least of the widths 1, 2, 4, 8 that has room for it, or 0. Condition: the package-level table of widths holds 1, 2, 4, 8.
  What varint.PutIn and varint.Put answer: the number's bytes in the width, its mark in the two highest bits of the first one, in new memory; or the error that the document names. Condition: the package-level table of widths holds 1, 2, 4, 8.
  What varint.Get and varint.Shortest answer for whatever bytes: the number that they begin with and its width, or the error that the document names; nothing is written. Condition: the package-level table of widths holds 1, 2, 4, 8.
  What the walks share of rows of bytes: a new row, a row carried on, a row as a string.
  The bytes that a number is put as are bytes, say their width, and are read as the number: plain facts on numbers, no program in sight but the definitions.
  What slices.Grow of nil and slices.Concat answer: a slice of the call's own that holds the parts' bytes, one behind the other; nothing that was there is changed.
  What the methods of a field.Reader answer and leave, for whatever bytes are left and whatever error it bears: nothing but the reader itself is written. Condition: the package-level table of widths holds 1, 2, 4, 8.
  What Reader.take answers and leaves.
  What Reader.Num, Text, Raw and Byte answer and leave, for whatever bytes are left and whatever error the reader bears.
  What field.Num, field.Text, bytes.Clone and field.New answer, for every input; nothing that was there is changed. Condition: the package-level table of widths holds 1, 2, 4, 8.
  What the readings answer for what was laid: plain facts on numbers and lists, no program in sight but the definitions.
  What a nil Reader answers; two parts joined; bytes as a string.
-/
import Derived.Test.YtcenchnmibdebaaDoorRows
import Derived.WalkKit
import Derived.WalkSpells
import Derived.Handy
import Derived.Laws.IdiomStrings
import Derived.Laws.AppendOwnNone
import Derived.Deep.DeepAppendWide
import Derived.Lib.AppendZerosOnto
import Derived.Lib.Walk
namespace Go.Proofs.YtcenchnmibdebaaDoor.Fi
open Go.RowKit
set_option maxRecDepth 100000

/-- The table of widths, as the walks read it. -/
def Wid (w : World) : Prop :=
  w.cell? ⟨0, 0, none⟩ = some (.int .i64 1) ∧ w.cell? ⟨0, 1, none⟩ = some (.int .i64 2) ∧
  w.cell? ⟨0, 2, none⟩ = some (.int .i64 4) ∧ w.cell? ⟨0, 3, none⟩ = some (.int .i64 8)

/-- The least width of a number, 0 if none has room. -/
def lenOf (n : Int) : Int :=
  if n < 0 then 0 else if n < 64 then 1 else if n < 16384 then 2 else if n < 1073741824 then 4 else if n < 4611686018427387904 then 8 else 0

theorem lenOf_cases (n : Int) :
    (n < 0 ∧ lenOf n = 0) ∨ (0 ≤ n ∧ n < 64 ∧ lenOf n = 1) ∨ (64 ≤ n ∧ n < 16384 ∧ lenOf n = 2) ∨ (16384 ≤ n ∧ n < 1073741824 ∧ lenOf n = 4) ∨
    (1073741824 ≤ n ∧ n < 4611686018427387904 ∧ lenOf n = 8) ∨ (4611686018427387904 ≤ n ∧ lenOf n = 0) := by
  unfold lenOf
  repeat' split
  all_goals omega

/-- The table as a value, and what stands at each place of it. -/
abbrev widV : Value := .agg #[.int .i64 1, .int .i64 2, .int .i64 4, .int .i64 8]
theorem wid0 : ∀ w : World, (Instr.index 118 widV (.int .i64 0)).run Tryd.prog w = .ok (.int .i64 1) w := fun _ => by kernel_rfl
theorem wid1 : ∀ w : World, (Instr.index 118 widV (.int .i64 1)).run Tryd.prog w = .ok (.int .i64 2) w := fun _ => by kernel_rfl
theorem wid2 : ∀ w : World, (Instr.index 118 widV (.int .i64 2)).run Tryd.prog w = .ok (.int .i64 4) w := fun _ => by kernel_rfl
theorem wid3 : ∀ w : World, (Instr.index 118 widV (.int .i64 3)).run Tryd.prog w = .ok (.int .i64 8) w := fun _ => by kernel_rfl

set_option maxHeartbeats 1000000 in
theorem len_any (n : Int) (w : World) (hw : Wid w) :
    Calls Tryd.prog 71 #[.int .i64 n] w fun e w' => e = .returned (.int .i64 (lenOf n)) ∧ w' = w := by
  obtain ⟨c0, c1, c2, c3⟩ := hw
  rcases lenOf_cases n with ⟨h1, h⟩ | ⟨h1, h2, h⟩ | ⟨h1, h2, h⟩ | ⟨h1, h2, h⟩ | ⟨h1, h2, h⟩ | ⟨h1, h⟩
  all_goals
    rw [h]
    clear h
    have x0 := wid0
    have x1 := wid1
    have x2 := wid2
    have x3 := wid3
    go_enter Tryd.func71, Tryd.ntmps71
    go_wp2
    go_rounds 5
    go_ret
    exact ⟨rfl, rfl⟩

set_option maxHeartbeats 1000000 in
theorem rlen_any (n : Int) (w : World) :
    Calls Tryd.prog 56 #[.int .i64 n] w fun e w' => e = .returned (.int .i64 (lenOf n)) ∧ w' = w := by
  rcases lenOf_cases n with ⟨h1, h⟩ | ⟨h1, h2, h⟩ | ⟨h1, h2, h⟩ | ⟨h1, h2, h⟩ | ⟨h1, h2, h⟩ | ⟨h1, h⟩
  all_goals
    rw [h]
    clear h
    go_enter Tryd.func56, Tryd.ntmps56
    go_wp2
    go_rounds 5
    go_ret
    exact ⟨rfl, rfl⟩
end Go.Proofs.YtcenchnmibdebaaDoor.Fi
namespace Go.Proofs.YtcenchnmibdebaaDoor.Fi
open Go.RowKit
set_option maxRecDepth 100000

theorem wraps_i64 (n : Int) (h₀ : 0 ≤ n) (h₁ : n < 2 ^ 63) : IntKind.i64.wrap n = n := by rw [IntKind.wrap_i64]; omega
theorem or64 (x : Int) (h0 : 0 ≤ x) (h1 : x < 64) : bits .or .u8 x 64 = x + 64 := by
  rw [u8_or x 64 h0 (by omega) (by omega) (by omega), Nat.or_comm]; have := nat_join 6 64 x.toNat (by decide) (by omega); show (((64 ||| x.toNat : Nat)) : Int) = _; omega
theorem or128 (x : Int) (h0 : 0 ≤ x) (h1 : x < 64) : bits .or .u8 x 128 = x + 128 := by
  rw [u8_or x 128 h0 (by omega) (by omega) (by omega), Nat.or_comm]; have := nat_join 6 128 x.toNat (by decide) (by omega); show (((128 ||| x.toNat : Nat)) : Int) = _; omega
theorem or192 (x : Int) (h0 : 0 ≤ x) (h1 : x < 64) : bits .or .u8 x 192 = x + 192 := by
  rw [u8_or x 192 h0 (by omega) (by omega) (by omega), Nat.or_comm]; have := nat_join 6 192 x.toNat (by decide) (by omega); show (((192 ||| x.toNat : Nat)) : Int) = _; omega
theorem or0 (x : Int) (h0 : 0 ≤ x) (h1 : x < 64) : bits .or .u8 x 0 = x := by
  rw [u8_or x 0 h0 (by omega) (by omega) (by omega)]; simp; omega

/-- A number's bytes in a width, as numbers. -/
def pb (n : Int) : Nat → List Int
  | 1 => [n]
  | 2 => [n / 256 + 64, n % 256]
  | 4 => [n / 256 / 256 / 256 + 128, n / 256 / 256 % 256, n / 256 % 256, n % 256]
  | 8 => [n / 256 / 256 / 256 / 256 / 256 / 256 / 256 + 192, n / 256 / 256 / 256 / 256 / 256 / 256 % 256, n / 256 / 256 / 256 / 256 / 256 % 256, n / 256 / 256 / 256 / 256 % 256, n / 256 / 256 / 256 % 256, n / 256 / 256 % 256, n / 256 % 256, n % 256]
  | _ => []

/-- The same as cells. -/
def pbA (n : Int) (W : Nat) : Array Value := ((pb n W).map (Value.int .u8)).toArray

/-- How many numbers a width has room for. -/
def lim : Nat → Int
  | 1 => 64
  | 2 => 16384
  | 4 => 1073741824
  | 8 => 4611686018427387904
  | _ => 0

theorem mk1 : ∀ w : World, (Instr.makeSlice 27 (.int .i64 1) (.int .i64 1)).run Tryd.prog w = .ok (.slice (some ⟨w.heap.size, 0, none⟩) 1 1) (w.alloc (.cells #[.int .u8 0] 5)) := fun _ => by kernel_rfl
theorem mk2 : ∀ w : World, (Instr.makeSlice 27 (.int .i64 2) (.int .i64 2)).run Tryd.prog w = .ok (.slice (some ⟨w.heap.size, 0, none⟩) 2 2) (w.alloc (.cells #[.int .u8 0, .int .u8 0] 5)) := fun _ => by kernel_rfl
theorem mk4 : ∀ w : World, (Instr.makeSlice 27 (.int .i64 4) (.int .i64 4)).run Tryd.prog w = .ok (.slice (some ⟨w.heap.size, 0, none⟩) 4 4) (w.alloc (.cells #[.int .u8 0, .int .u8 0, .int .u8 0, .int .u8 0] 5)) := fun _ => by kernel_rfl
theorem mk8 : ∀ w : World, (Instr.makeSlice 27 (.int .i64 8) (.int .i64 8)).run Tryd.prog w = .ok (.slice (some ⟨w.heap.size, 0, none⟩) 8 8) (w.alloc (.cells #[.int .u8 0, .int .u8 0, .int .u8 0, .int .u8 0, .int .u8 0, .int .u8 0, .int .u8 0, .int .u8 0] 5)) := fun _ => by kernel_rfl

set_option maxHeartbeats 1000000 in
theorem putIn1 (n : Int) (w : World) (hw : Wid w) (h1 : 0 ≤ n) (h2 : n < 64) :
    Calls Tryd.prog 72 #[.int .i64 n, .int .i64 1] w fun e w' => e = .returned (.tuple #[.slice (some ⟨w.heap.size, 0, none⟩) 1 1, .int .i64 0]) ∧ w' = w.alloc (.cells (pbA n 1) 5) := by
  obtain ⟨c0, c1, c2, c3⟩ := hw
  have x0 := wid0
  have m1 := mk1
  have ho : Hid (bits .or .u8 n 0 = n) := or0 n h1 h2
  go_enter Tryd.func72, Tryd.ntmps72
  go_wp2
  go_rounds 5
  go_rounds 2
  go_ret2
  refine ⟨rfl, ?_⟩
  simp [pbA, pb, ho.out]

set_option maxHeartbeats 1000000 in
theorem putIn2 (n : Int) (w : World) (hw : Wid w) (h1 : 0 ≤ n) (h2 : n < 16384) :
    Calls Tryd.prog 72 #[.int .i64 n, .int .i64 2] w fun e w' => e = .returned (.tuple #[.slice (some ⟨w.heap.size, 0, none⟩) 2 2, .int .i64 0]) ∧ w' = w.alloc (.cells (pbA n 2) 5) := by
  obtain ⟨c0, c1, c2, c3⟩ := hw
  have x0 := wid0
  have x1 := wid1
  have m2 := mk2
  have ho : Hid (bits .or .u8 (n / 256) 64 = n / 256 + 64) := or64 (n / 256) (by omega) (by omega)
  go_enter Tryd.func72, Tryd.ntmps72
  go_wp2
  go_rounds 5
  go_rounds 3
  go_ret2
  refine ⟨rfl, ?_⟩
  simp [pbA, pb, ho.out]

set_option maxHeartbeats 1000000 in
theorem putIn4 (n : Int) (w : World) (hw : Wid w) (h1 : 0 ≤ n) (h2 : n < 1073741824) :
    Calls Tryd.prog 72 #[.int .i64 n, .int .i64 4] w fun e w' => e = .returned (.tuple #[.slice (some ⟨w.heap.size, 0, none⟩) 4 4, .int .i64 0]) ∧ w' = w.alloc (.cells (pbA n 4) 5) := by
  obtain ⟨c0, c1, c2, c3⟩ := hw
  have x0 := wid0
  have x1 := wid1
  have x2 := wid2
  have m4 := mk4
  have ho : Hid (bits .or .u8 (n / 256 / 256 / 256) 128 = n / 256 / 256 / 256 + 128) := or128 (n / 256 / 256 / 256) (by omega) (by omega)
  go_enter Tryd.func72, Tryd.ntmps72
  go_wp2
  go_rounds 5
  go_rounds 5
  go_ret2
  refine ⟨rfl, ?_⟩
  simp [pbA, pb, ho.out]

set_option maxHeartbeats 2000000 in
theorem putIn8 (n : Int) (w : World) (hw : Wid w) (h1 : 0 ≤ n) (h2 : n < 4611686018427387904) :
    Calls Tryd.prog 72 #[.int .i64 n, .int .i64 8] w fun e w' => e = .returned (.tuple #[.slice (some ⟨w.heap.size, 0, none⟩) 8 8, .int .i64 0]) ∧ w' = w.alloc (.cells (pbA n 8) 5) := by
  obtain ⟨c0, c1, c2, c3⟩ := hw
  have x0 := wid0
  have x1 := wid1
  have x2 := wid2
  have x3 := wid3
  have m8 := mk8
  have ho : Hid (bits .or .u8 (n / 256 / 256 / 256 / 256 / 256 / 256 / 256) 192 = n / 256 / 256 / 256 / 256 / 256 / 256 / 256 + 192) := or192 _ (by omega) (by omega)
  go_enter Tryd.func72, Tryd.ntmps72
  go_wp2
  go_rounds 5
  go_rounds 9
  go_ret2
  refine ⟨rfl, ?_⟩
  simp [pbA, pb, ho.out]

/-- The four widths. -/
def IsW (W : Nat) : Prop := W = 1 ∨ W = 2 ∨ W = 4 ∨ W = 8

theorem putIn_ok (n : Int) (W : Nat) (w : World) (hW : IsW W) (hw : Wid w) (h1 : 0 ≤ n) (h2 : n < lim W) :
    Calls Tryd.prog 72 #[.int .i64 n, .int .i64 W] w fun e w' => e = .returned (.tuple #[.slice (some ⟨w.heap.size, 0, none⟩) W W, .int .i64 0]) ∧ w' = w.alloc (.cells (pbA n W) 5) := by
  rcases hW with rfl | rfl | rfl | rfl
  · exact putIn1 n w hw h1 h2
  · exact putIn2 n w hw h1 h2
  · exact putIn4 n w hw h1 h2
  · exact putIn8 n w hw h1 h2

set_option maxHeartbeats 2000000 in
theorem putIn_range (n : Int) (W : Nat) (w : World) (hW : IsW W) (hw : Wid w) (h : n < 0 ∨ lim W ≤ n) :
    Calls Tryd.prog 72 #[.int .i64 n, .int .i64 W] w fun e w' => e = .returned (.tuple #[.slice none 0 0, .int .i64 13]) ∧ w' = w := by
  have step : ∀ x : Int, (x = 1 ∧ (n < 0 ∨ 64 ≤ n)) ∨ (x = 2 ∧ (n < 0 ∨ 16384 ≤ n)) ∨ (x = 4 ∧ (n < 0 ∨ 1073741824 ≤ n)) ∨ (x = 8 ∧ (n < 0 ∨ 4611686018427387904 ≤ n)) →
      Calls Tryd.prog 72 #[.int .i64 n, .int .i64 x] w fun e w' => e = .returned (.tuple #[.slice none 0 0, .int .i64 13]) ∧ w' = w := by
    intro x hx
    clear h hW
    obtain ⟨c0, c1, c2, c3⟩ := hw
    have x0 := wid0
    have x1 := wid1
    have x2 := wid2
    have x3 := wid3
    rcases hx with ⟨rfl, h | h⟩ | ⟨rfl, h | h⟩ | ⟨rfl, h | h⟩ | ⟨rfl, h | h⟩
    all_goals
      try have hb : decide (n < 64) = false := by simpa using h
      try have hb : decide (n < 16384) = false := by simpa using h
      try have hb : decide (n < 1073741824) = false := by simpa using h
      try have hb : decide (n < 4611686018427387904) = false := by simpa using h
      go_enter Tryd.func72, Tryd.ntmps72
      go_wp2
      go_rounds 5
      go_ret2
      exact ⟨rfl, rfl⟩
  rcases hW with rfl | rfl | rfl | rfl
  · exact step 1 (.inl ⟨rfl, h⟩)
  · exact step 2 (.inr (.inl ⟨rfl, h⟩))
  · exact step 4 (.inr (.inr (.inl ⟨rfl, h⟩)))
  · exact step 8 (.inr (.inr (.inr ⟨rfl, h⟩)))

set_option maxHeartbeats 2000000 in
theorem putIn_arg (n x : Int) (w : World) (hw : Wid w) (h1 : x ≠ 1) (h2 : x ≠ 2) (h4 : x ≠ 4) (h8 : x ≠ 8) :
    Calls Tryd.prog 72 #[.int .i64 n, .int .i64 x] w fun e w' => e = .returned (.tuple #[.slice none 0 0, .int .i64 2]) ∧ w' = w := by
  obtain ⟨c0, c1, c2, c3⟩ := hw
  have x0 := wid0
  have x1 := wid1
  have x2 := wid2
  have x3 := wid3
  have y1 : ((1 : Int) == x) = false := by simp; omega
  have y2 : ((2 : Int) == x) = false := by simp; omega
  have y4 : ((4 : Int) == x) = false := by simp; omega
  have y8 : ((8 : Int) == x) = false := by simp; omega
  clear h1 h2 h4 h8
  go_enter Tryd.func72, Tryd.ntmps72
  go_wp2
  go_rounds 5
  go_ret2
  exact ⟨rfl, rfl⟩

theorem lenOf_eq (n : Int) (W : Nat) (h : lenOf n = W) (h0 : W ≠ 0) : IsW W ∧ 0 ≤ n ∧ n < lim W := by
  unfold IsW
  rcases lenOf_cases n with ⟨h1, e⟩ | ⟨h1, h2, e⟩ | ⟨h1, h2, e⟩ | ⟨h1, h2, e⟩ | ⟨h1, h2, e⟩ | ⟨h1, e⟩
  · omega
  · obtain rfl : W = 1 := by omega
    exact ⟨.inl rfl, h1, h2⟩
  · obtain rfl : W = 2 := by omega
    exact ⟨.inr (.inl rfl), by omega, h2⟩
  · obtain rfl : W = 4 := by omega
    exact ⟨.inr (.inr (.inl rfl)), by omega, h2⟩
  · obtain rfl : W = 8 := by omega
    exact ⟨.inr (.inr (.inr rfl)), by omega, h2⟩
  · omega

set_option maxHeartbeats 1000000 in
theorem put_no (n : Int) (w : World) (hw : Wid w) (h : lenOf n = 0) :
    Calls Tryd.prog 51 #[.int .i64 n] w fun e w' => e = .returned (.tuple #[.slice none 0 0, .int .i64 13]) ∧ w' = w := by
  go_enter Tryd.func51, Tryd.ntmps51
  go_wp2_with (go_at_call 71; refine (len_any n _ hw).mono ?_; rintro e w' ⟨rfl, rfl⟩)
  go_ret2
  exact ⟨rfl, rfl⟩

set_option maxHeartbeats 1000000 in
theorem put_ok (n : Int) (W : Nat) (w : World) (hw : Wid w) (h : lenOf n = W) (h0 : W ≠ 0) :
    Calls Tryd.prog 51 #[.int .i64 n] w fun e w' => e = .returned (.tuple #[.slice (some ⟨w.heap.size, 0, none⟩) W W, .int .i64 0]) ∧ w' = w.alloc (.cells (pbA n W) 5) := by
  obtain ⟨hW, h1, h2⟩ := lenOf_eq n W h h0
  have hne : ((W : Int) == 0) = false := by simp; omega
  clear h0
  go_enter Tryd.func51, Tryd.ntmps51
  go_wp2_with (first | (go_at_call 71; refine (len_any n _ hw).mono ?_; rintro e w' ⟨rfl, rfl⟩) | (go_at_call 72; refine (putIn_ok n W _ hW hw h1 h2).mono ?_; rintro e w' ⟨rfl, rfl⟩))
  go_ret2
  exact ⟨rfl, rfl⟩
end Go.Proofs.YtcenchnmibdebaaDoor.Fi
namespace Go.Proofs.YtcenchnmibdebaaDoor.Fi
open Go.RowKit
set_option maxRecDepth 100000

set_option maxHeartbeats 1000000 in
theorem get_empty (a : Option Addr) (cap : Nat) (w : World) :
    Calls Tryd.prog 83 #[.slice a 0 cap] w fun e w' => e = .returned (.tuple #[.int .i64 0, .int .i64 0, .int .i64 3]) ∧ w' = w := by
  go_enter Tryd.func83, Tryd.ntmps83
  go_wp2
  go_ret3
  exact ⟨rfl, rfl⟩

set_option maxHeartbeats 1000000 in
theorem get_cut (b off len cap : Nat) (z : Int) (w : World) (hw : Wid w) (hm : len ≤ maxLen) (hp : 0 < len) (hc : w.cell? ⟨b, off, none⟩ = some (.int .u8 z)) (k : Nat) (hz : z / 64 = k) (h0 : 0 ≤ z) (h1 : z < 256) (hl : len < 2 ^ k) :
    Calls Tryd.prog 83 #[.slice (some ⟨b, off, none⟩) len cap] w fun e w' => e = .returned (.tuple #[.int .i64 0, .int .i64 0, .int .i64 3]) ∧ w' = w := by
  obtain ⟨c0, c1, c2, c3⟩ := hw
  unfold maxLen at hm
  have hne : ((len : Int) == 0) = false := by simp; omega
  have hk : k = 0 ∨ k = 1 ∨ k = 2 ∨ k = 3 := by omega
  rcases hk with rfl | rfl | rfl | rfl
  all_goals
    simp at hz hl
  · omega
  all_goals
    go_enter Tryd.func83, Tryd.ntmps83
    go_wp2
    go_ret3
    exact ⟨rfl, rfl⟩

/-- The number that k + 1 bytes say, the first one without its mark. -/
def gval (zs : List Int) : Nat → Int
  | 0 => zs.getD 0 0 % 64
  | k + 1 => gval zs k * 256 + zs.getD (k + 1) 0

theorem gval_bd (zs : List Int) (hb : ∀ i, 0 ≤ zs.getD i 0 ∧ zs.getD i 0 < 256) (k : Nat) : 0 ≤ gval zs k ∧ gval zs k < 64 * 256 ^ k := by
  induction k with
  | zero => simp only [gval]; omega
  | succ k ih =>
    have := hb (k + 1)
    simp only [gval]
    have e : (256 : Int) ^ (k + 1) = 256 ^ k * 256 := Int.pow_succ 256 k
    rw [e]
    omega

theorem gval_lt (zs : List Int) (hb : ∀ i, 0 ≤ zs.getD i 0 ∧ zs.getD i 0 < 256) (k : Nat) (hk : k < 7) : 0 ≤ gval zs k ∧ gval zs k < 18014398509481984 := by
  have h := gval_bd zs hb k
  have : (64 * 256 ^ k : Int) ≤ 18014398509481984 := by
    match k, hk with
    | 0, _ => decide
    | 1, _ => decide
    | 2, _ => decide
    | 3, _ => decide
    | 4, _ => decide
    | 5, _ => decide
    | 6, _ => decide
  omega

theorem or_join (x y : Int) (h0 : 0 ≤ x) (h1 : x < 18014398509481984) (h2 : 0 ≤ y) (h3 : y < 256) : bits .or .i64 (x * 256) y = x * 256 + y :=
  bits_join .i64 63 (by decide) wraps_i64 8 _ _ (by omega) (by omega) (by omega) h2 (by omega) (by omega)

set_option maxHeartbeats 2000000 in
theorem get_ok (b off len cap : Nat) (zs : List Int) (w : World) (hw : Wid w) (hlc : len ≤ cap) (hm : cap ≤ maxLen)
    (hc : ∀ i, i < len → w.cell? ⟨b, off + i, none⟩ = some (.int .u8 (zs.getD i 0))) (hb : ∀ i, 0 ≤ zs.getD i 0 ∧ zs.getD i 0 < 256)
    (k : Nat) (hz : zs.getD 0 0 / 64 = k) (hl : 2 ^ k ≤ len) :
    Calls Tryd.prog 83 #[.slice (some ⟨b, off, none⟩) len cap] w fun e w' => e = .returned (.tuple #[.int .i64 (gval zs (2 ^ k - 1)), .int .i64 (2 ^ k : Nat), .int .i64 0]) ∧ w' = w := by
  obtain ⟨c0, c1, c2, c3⟩ := hw
  unfold maxLen at hm
  obtain ⟨h0, h1⟩ := hb 0
  have hp : 0 < len := Nat.lt_of_lt_of_le (Nat.two_pow_pos k) hl
  have hcz : w.cell? ⟨b, off, none⟩ = some (.int .u8 (zs.getD 0 0)) := hc 0 hp
  obtain ⟨z, hz'⟩ : ∃ z, zs.getD 0 0 = z := ⟨_, rfl⟩
  have hg0 : gval zs 0 = z % 64 := by rw [← hz']; rfl
  rw [hz'] at h0 h1 hz hcz
  clear hz'
  have hne : ((len : Int) == 0) = false := by simp; omega
  have hk : k = 0 ∨ k = 1 ∨ k = 2 ∨ k = 3 := by omega
  have HC : Hid (∀ i, i < len → w.cell? ⟨b, off + i, none⟩ = some (.int .u8 (zs.getD i 0))) := hc
  have HB : Hid (∀ i, 0 ≤ zs.getD i 0 ∧ zs.getD i 0 < 256) := hb
  have HG : Hid (gval zs 0 = z % 64) := hg0
  clear hc hb hg0
  rcases hk with rfl | rfl | rfl | rfl
  · simp at hz hl
    rw [show gval zs (2 ^ 0 - 1) = z % 64 from HG.out]
    go_enter Tryd.func83, Tryd.ntmps83
    go_wp2
    all_goals
      go_rounds 1
      go_ret3
      exact ⟨rfl, rfl⟩
  · simp at hz hl
    go_enter Tryd.func83, Tryd.ntmps83
    go_wp2
    go_loop [2, 29] (fun n i => ∃ j : Nat, j ≤ 1 ∧ i = .int .i64 j ∧ n = .int .i64 (gval zs j)) (fun _ i => 8 - (intOf i).toNat)
    case atStart => exact ⟨0, by omega, rfl, by rw [HG.out]⟩
    case round =>
      obtain ⟨j, hj, rfl, rfl⟩ := hrel
      by_cases hlt : j < 1
      · have hcx : w.cell? ⟨b, off + 1 + j, none⟩ = some (.int .u8 (zs.getD (j + 1) 0)) := by rw [show off + 1 + j = off + (j + 1) by omega]; exact HC.out _ (by omega)
        obtain ⟨g0, g1⟩ := gval_lt zs HB.out j (by omega)
        obtain ⟨b0, b1⟩ := HB.out (j + 1)
        obtain ⟨y, hy⟩ : ∃ y, zs.getD (j + 1) 0 = y := ⟨_, rfl⟩
        have HY : Hid (gval zs (j + 1) = gval zs j * 256 + y) := by rw [← hy]; rfl
        rw [hy] at hcx b0 b1
        clear hy
        have ho := or_join (gval zs j) y g0 g1 b0 b1
        go_wp2
        go_round
        case rel => exact ⟨j + 1, by omega, by go_num, by rw [HY.out]⟩
        case measure => simp [intOf]; omega
      · obtain rfl : j = 1 := by omega
        go_wp2
        go_ret3
        exact ⟨rfl, rfl⟩
  · simp at hz hl
    go_enter Tryd.func83, Tryd.ntmps83
    go_wp2
    go_loop [2, 29] (fun n i => ∃ j : Nat, j ≤ 3 ∧ i = .int .i64 j ∧ n = .int .i64 (gval zs j)) (fun _ i => 8 - (intOf i).toNat)
    case atStart => exact ⟨0, by omega, rfl, by rw [HG.out]⟩
    case round =>
      obtain ⟨j, hj, rfl, rfl⟩ := hrel
      by_cases hlt : j < 3
      · have hcx : w.cell? ⟨b, off + 1 + j, none⟩ = some (.int .u8 (zs.getD (j + 1) 0)) := by rw [show off + 1 + j = off + (j + 1) by omega]; exact HC.out _ (by omega)
        obtain ⟨g0, g1⟩ := gval_lt zs HB.out j (by omega)
        obtain ⟨b0, b1⟩ := HB.out (j + 1)
        obtain ⟨y, hy⟩ : ∃ y, zs.getD (j + 1) 0 = y := ⟨_, rfl⟩
        have HY : Hid (gval zs (j + 1) = gval zs j * 256 + y) := by rw [← hy]; rfl
        rw [hy] at hcx b0 b1
        clear hy
        have ho := or_join (gval zs j) y g0 g1 b0 b1
        go_wp2
        go_round
        case rel => exact ⟨j + 1, by omega, by go_num, by rw [HY.out]⟩
        case measure => simp [intOf]; omega
      · obtain rfl : j = 3 := by omega
        go_wp2
        go_ret3
        exact ⟨rfl, rfl⟩
  · simp at hz hl
    go_enter Tryd.func83, Tryd.ntmps83
    go_wp2
    go_loop [2, 29] (fun n i => ∃ j : Nat, j ≤ 7 ∧ i = .int .i64 j ∧ n = .int .i64 (gval zs j)) (fun _ i => 8 - (intOf i).toNat)
    case atStart => exact ⟨0, by omega, rfl, by rw [HG.out]⟩
    case round =>
      obtain ⟨j, hj, rfl, rfl⟩ := hrel
      by_cases hlt : j < 7
      · have hcx : w.cell? ⟨b, off + 1 + j, none⟩ = some (.int .u8 (zs.getD (j + 1) 0)) := by rw [show off + 1 + j = off + (j + 1) by omega]; exact HC.out _ (by omega)
        obtain ⟨g0, g1⟩ := gval_lt zs HB.out j (by omega)
        obtain ⟨b0, b1⟩ := HB.out (j + 1)
        obtain ⟨y, hy⟩ : ∃ y, zs.getD (j + 1) 0 = y := ⟨_, rfl⟩
        have HY : Hid (gval zs (j + 1) = gval zs j * 256 + y) := by rw [← hy]; rfl
        rw [hy] at hcx b0 b1
        clear hy
        have ho := or_join (gval zs j) y g0 g1 b0 b1
        go_wp2
        go_round
        case rel => exact ⟨j + 1, by omega, by go_num, by rw [HY.out]⟩
        case measure => simp [intOf]; omega
      · obtain rfl : j = 7 := by omega
        go_wp2
        go_ret3
        exact ⟨rfl, rfl⟩

/-- What the walks ask of a slice of bytes: it is empty, or its first 'len' cells hold the numbers zs, each a byte. -/
def Row (w : World) (a : Option Addr) (len cap : Nat) (zs : List Int) : Prop :=
  len = 0 ∨ (0 < len ∧ ∃ b off, a = some ⟨b, off, none⟩ ∧ len ≤ cap ∧ cap ≤ maxLen ∧
    (∀ i, i < len → w.cell? ⟨b, off + i, none⟩ = some (.int .u8 (zs.getD i 0))) ∧ (∀ i, 0 ≤ zs.getD i 0 ∧ zs.getD i 0 < 256))

/-- Which of the widths the first byte's mark says. -/
def gk (zs : List Int) : Nat := (zs.getD 0 0 / 64).toNat

/-- What Get answers: number, width, error. -/
def getN (len : Nat) (zs : List Int) : Int := if len < 2 ^ gk zs ∨ len = 0 then 0 else gval zs (2 ^ gk zs - 1)
def getU (len : Nat) (zs : List Int) : Int := if len < 2 ^ gk zs ∨ len = 0 then 0 else (2 ^ gk zs : Nat)
def getE (len : Nat) (zs : List Int) : Int := if len < 2 ^ gk zs ∨ len = 0 then 3 else 0

theorem get_any (a : Option Addr) (len cap : Nat) (zs : List Int) (w : World) (hw : Wid w) (hr : Row w a len cap zs) :
    Calls Tryd.prog 83 #[.slice a len cap] w fun e w' => e = .returned (.tuple #[.int .i64 (getN len zs), .int .i64 (getU len zs), .int .i64 (getE len zs)]) ∧ w' = w := by
  unfold getN getU getE
  rcases hr with rfl | ⟨hp, b, off, rfl, hlc, hm, hc, hb⟩
  · rw [if_pos (.inr rfl), if_pos (.inr rfl), if_pos (.inr rfl)]
    exact get_empty a cap w
  · obtain ⟨h0, h1⟩ := hb 0
    have hz : zs.getD 0 0 / 64 = (gk zs : Nat) := by unfold gk; omega
    by_cases hl : len < 2 ^ gk zs
    · rw [if_pos (.inl hl), if_pos (.inl hl), if_pos (.inl hl)]
      exact get_cut b off len cap _ w hw (by omega) hp (hc 0 hp) (gk zs) hz h0 h1 hl
    · rw [if_neg (by omega), if_neg (by omega), if_neg (by omega)]
      exact get_ok b off len cap zs w hw hlc hm hc hb (gk zs) hz (by omega)

/-- What Shortest answers. -/
def shN (len : Nat) (zs : List Int) : Int := if getE len zs = 0 ∧ getU len zs ≤ lenOf (getN len zs) then getN len zs else 0
def shU (len : Nat) (zs : List Int) : Int := if getE len zs = 0 ∧ getU len zs ≤ lenOf (getN len zs) then getU len zs else 0
def shE (len : Nat) (zs : List Int) : Int := if getE len zs = 0 then (if getU len zs ≤ lenOf (getN len zs) then 0 else 4) else getE len zs

set_option maxHeartbeats 1000000 in
theorem shortest_any (a : Option Addr) (len cap : Nat) (zs : List Int) (w : World) (hw : Wid w) (hr : Row w a len cap zs) :
    Calls Tryd.prog 65 #[.slice a len cap] w fun e w' => e = .returned (.tuple #[.int .i64 (shN len zs), .int .i64 (shU len zs), .int .i64 (shE len zs)]) ∧ w' = w := by
  unfold shN shU shE
  have hg := get_any a len cap zs w hw hr
  generalize getN len zs = n at *
  generalize getU len zs = u at *
  generalize getE len zs = g at *
  by_cases h : g = 0
  · subst h
    by_cases h2 : u ≤ lenOf n
    · rw [if_pos ⟨rfl, h2⟩, if_pos ⟨rfl, h2⟩, if_pos rfl, if_pos h2]
      go_enter Tryd.func65, Tryd.ntmps65
      go_wp2_with (first | (go_at_call 83; refine hg.mono ?_; rintro e w' ⟨rfl, rfl⟩) | (go_at_call 71; refine (len_any n _ hw).mono ?_; rintro e w' ⟨rfl, rfl⟩))
      go_ret3
      exact ⟨rfl, rfl⟩
    · have h3 : lenOf n < u := by omega
      rw [if_neg (by omega), if_neg (by omega), if_pos rfl, if_neg h2]
      go_enter Tryd.func65, Tryd.ntmps65
      go_wp2_with (first | (go_at_call 83; refine hg.mono ?_; rintro e w' ⟨rfl, rfl⟩) | (go_at_call 71; refine (len_any n _ hw).mono ?_; rintro e w' ⟨rfl, rfl⟩))
      go_ret3
      exact ⟨rfl, rfl⟩
  · have h' : (g == 0) = false := by simpa using h
    rw [if_neg (by omega), if_neg (by omega), if_neg h]
    go_enter Tryd.func65, Tryd.ntmps65
    go_wp2_with (first | (go_at_call 83; refine hg.mono ?_; rintro e w' ⟨rfl, rfl⟩) | (go_at_call 71; refine (len_any n _ hw).mono ?_; rintro e w' ⟨rfl, rfl⟩))
    go_ret3
    exact ⟨rfl, rfl⟩
end Go.Proofs.YtcenchnmibdebaaDoor.Fi
namespace Go.Proofs.YtcenchnmibdebaaDoor.Fi
open Go.RowKit
set_option maxRecDepth 100000

theorem Wid.pos {w : World} (h : Wid w) : 0 < w.heap.size := World.block_lt_of_cell? w _ h.1
theorem Wid.below {w w' : World} {B : Nat} (h : Wid w) (hb : Below B w w') (hB : 0 < B) : Wid w' := by
  obtain ⟨c0, c1, c2, c3⟩ := h
  exact ⟨(hb.cell (p := ⟨0, 0, none⟩) hB).trans c0, (hb.cell (p := ⟨0, 1, none⟩) hB).trans c1, (hb.cell (p := ⟨0, 2, none⟩) hB).trans c2, (hb.cell (p := ⟨0, 3, none⟩) hB).trans c3⟩
theorem Wid.alloc {w : World} (h : Wid w) (o : Obj) : Wid (w.alloc o) := h.below ((Below.refl w.heap.size w).alloc (Nat.le_refl _) o) h.pos

/-- Bytes, given as numbers, as a string. -/
def strB (l : List Int) : ByteArray := ⟨(l.map fun n => UInt8.ofNat n.toNat).toArray⟩

theorem conv_any (a : Option Addr) (len cap : Nat) (zs : List Int) (w : World) (hz : len ≤ zs.length) (hr : Row w a len cap zs) :
    (convert 27 9 (.slice a len cap)).run Tryd.prog w = .ok (.string (strB (zs.take len))) w := by
  rcases hr with rfl | ⟨hp, b, off, rfl, hlc, hm, hc, hb⟩
  · cases a with
    | none => rw [run_convert_bytes_string w 27 9 5 none 0 cap Tryd.underlying27 Tryd.underlying5 Tryd.underlying9]; rfl
    | some a => exact run_convert_bytes_back (P := Tryd.prog) w 27 9 5 a cap [] Tryd.underlying27 Tryd.underlying5 Tryd.underlying9 (fun j hj => by simp at hj)
  · have hlen : ((zs.take len).map fun n => UInt8.ofNat n.toNat).length = len := by simp; omega
    have h := run_convert_bytes_back (P := Tryd.prog) w 27 9 5 ⟨b, off, none⟩ cap ((zs.take len).map fun n => UInt8.ofNat n.toNat) Tryd.underlying27 Tryd.underlying5 Tryd.underlying9 (fun j hj => by
      rw [hlen] at hj
      rw [Addr.add_lit, hc j hj]
      have hbj := hb j
      have e : zs.getD j 0 = zs[j]'(by omega) := by simp [List.getD, List.getElem?_eq_getElem (show j < zs.length by omega)]
      rw [e] at hbj ⊢
      simp only [List.getElem_map, List.getElem_take]
      congr 2
      simp only [UInt8.toNat_ofNat']
      omega)
    rw [hlen] at h
    exact h

theorem row_new (w : World) (zs : List Int) (hb : ∀ i, 0 ≤ zs.getD i 0 ∧ zs.getD i 0 < 256) (hm : zs.length ≤ maxLen) :
    Row (w.alloc (.cells (zs.map (Value.int .u8)).toArray 5)) (some ⟨w.heap.size, 0, none⟩) zs.length zs.length zs := by
  rcases Nat.eq_zero_or_pos zs.length with h | h
  · exact .inl h
  · refine .inr ⟨h, w.heap.size, 0, rfl, Nat.le_refl _, hm, fun i hi => ?_, hb⟩
    rw [World.cell?_alloc_at _ _ _ _ rfl]
    simp [hi]

theorem Row.below {w w' : World} {B : Nat} {a : Option Addr} {len cap : Nat} {zs : List Int} (h : Row w a len cap zs) (hb : Below B w w') (hB : ∀ b, a = some b → b.block < B) : Row w' a len cap zs := by
  rcases h with h | ⟨hp, b, off, rfl, hlc, hm, hc, hz⟩
  · exact .inl h
  · exact .inr ⟨hp, b, off, rfl, hlc, hm, fun i hi => (hb.cell (p := ⟨b, off + i, none⟩) (show b < B from hB ⟨b, off, none⟩ rfl)).trans (hc i hi), hz⟩

theorem byteList (zs : List Int) (h : zs.all (fun z => 0 ≤ z && z < 256) = true) : ∀ i, 0 ≤ zs.getD i 0 ∧ zs.getD i 0 < 256 := by
  intro i
  by_cases hi : i < zs.length
  · have := List.all_eq_true.1 h zs[i] (List.getElem_mem hi)
    simp at this
    simpa [List.getD, List.getElem?_eq_getElem hi] using this
  · simp [List.getD, List.getElem?_eq_none (show zs.length ≤ i by omega)]
end Go.Proofs.YtcenchnmibdebaaDoor.Fi
namespace Go.Proofs.YtcenchnmibdebaaDoor.Fi
open Go.RowKit
set_option maxRecDepth 100000

theorem pb_len (n : Int) (W : Nat) (hW : IsW W) : (pb n W).length = W := by
  rcases hW with rfl | rfl | rfl | rfl <;> rfl

theorem pb_bytes (n : Int) (W : Nat) (hW : IsW W) (h1 : 0 ≤ n) (h2 : n < lim W) : ∀ i, 0 ≤ (pb n W).getD i 0 ∧ (pb n W).getD i 0 < 256 := by
  refine byteList _ ?_
  rcases hW with rfl | rfl | rfl | rfl
  all_goals
    simp only [lim] at h2
    simp only [pb, List.all_cons, List.all_nil, Bool.and_eq_true, decide_eq_true_eq, and_true]
    omega

theorem pb_gk (n : Int) (W : Nat) (hW : IsW W) (h1 : 0 ≤ n) (h2 : n < lim W) : 2 ^ gk (pb n W) = W := by
  rcases hW with rfl | rfl | rfl | rfl
  · have : gk (pb n 1) = 0 := by unfold gk; simp only [lim] at h2; simp only [pb, List.getD_cons_zero]; omega
    rw [this]
  · have : gk (pb n 2) = 1 := by unfold gk; simp only [lim] at h2; simp only [pb, List.getD_cons_zero]; omega
    rw [this]
  · have : gk (pb n 4) = 2 := by unfold gk; simp only [lim] at h2; simp only [pb, List.getD_cons_zero]; omega
    rw [this]
  · have : gk (pb n 8) = 3 := by unfold gk; simp only [lim] at h2; simp only [pb, List.getD_cons_zero]; omega
    rw [this]

theorem gval_take (xs ys : List Int) (k : Nat) (h : ∀ i, i ≤ k → xs.getD i 0 = ys.getD i 0) : gval xs k = gval ys k := by
  induction k with
  | zero => simp only [gval]; rw [h 0 (Nat.le_refl _)]
  | succ k ih => simp only [gval]; rw [ih (fun i hi => h i (by omega)), h (k + 1) (Nat.le_refl _)]

theorem pb_gval (n : Int) (W : Nat) (hW : IsW W) (h1 : 0 ≤ n) (h2 : n < lim W) : gval (pb n W) (W - 1) = n := by
  rcases hW with rfl | rfl | rfl | rfl
  all_goals
    simp only [lim] at h2
    simp only [pb, gval, Nat.reduceSub, List.getD_cons_zero, List.getD_cons_succ]
    omega

theorem row_put (n : Int) (W : Nat) (w : World) (hW : IsW W) (h1 : 0 ≤ n) (h2 : n < lim W) : Row (w.alloc (.cells (pbA n W) 5)) (some ⟨w.heap.size, 0, none⟩) W W (pb n W) := by
  have := row_new w (pb n W) (pb_bytes n W hW h1 h2) (by rw [pb_len n W hW]; unfold maxLen; rcases hW with rfl | rfl | rfl | rfl <;> omega)
  rw [pb_len n W hW] at this
  exact this

theorem Row.cut {w : World} {a : Option Addr} {len cap : Nat} {zs : List Int} (h : Row w a len cap zs) (m : Nat) (hm : m ≤ len) : Row w a m cap zs := by
  rcases Nat.eq_zero_or_pos m with h0 | h0
  · exact .inl h0
  · rcases h with h | ⟨hp, b, off, rfl, hlc, hx, hc, hz⟩
    · omega
    · exact .inr ⟨h0, b, off, rfl, by omega, hx, fun i hi => hc i (by omega), hz⟩
end Go.Proofs.YtcenchnmibdebaaDoor.Fi
namespace Go.Proofs.YtcenchnmibdebaaDoor.Fi
open Go.RowKit
set_option maxRecDepth 100000

theorem info5' : (Tryd.prog.info? 5).map (fun i => (i.zero, i.size, i.bytes)) = some (some (.int .u8 0), 1, 1) := by kernel_rfl

/-- A value that is a slice of the bytes xs. -/
def Sl (w : World) (v : Value) (xs : List Int) : Prop :=
  ∃ a cap, v = .slice a xs.length cap ∧ xs.length ≤ cap ∧ cap ≤ maxLen ∧ (a = none → cap = 0) ∧ Row w a xs.length cap xs

theorem Row.kept {w w' : World} {a : Option Addr} {len cap : Nat} {zs : List Int} (h : Row w a len cap zs) (hb : Below w.heap.size w w') : Row w' a len cap zs := by
  rcases h with h | ⟨hp, b, off, rfl, hlc, hm, hc, hz⟩
  · exact .inl h
  · exact .inr ⟨hp, b, off, rfl, hlc, hm, fun i hi => (hb.cell (p := ⟨b, off + i, none⟩) (World.block_lt_of_cell? _ _ (hc i hi))).trans (hc i hi), hz⟩

theorem Sl.kept {w w' : World} {v : Value} {xs : List Int} (h : Sl w v xs) (hb : Below w.heap.size w w') : Sl w' v xs := by
  obtain ⟨a, cap, e, h1, h2, h3, h4⟩ := h
  exact ⟨a, cap, e, h1, h2, h3, h4.kept hb⟩

theorem Row.bytes {w : World} {a : Option Addr} {cap : Nat} {xs : List Int} (h : Row w a xs.length cap xs) : ∀ i, 0 ≤ xs.getD i 0 ∧ xs.getD i 0 < 256 := by
  rcases h with h | ⟨_, _, _, _, _, _, _, hz⟩
  · obtain rfl := List.length_eq_zero_iff.1 h
    intro i
    simp
  · exact hz

theorem Sl.bytes {w : World} {v : Value} {xs : List Int} (h : Sl w v xs) : ∀ i, 0 ≤ xs.getD i 0 ∧ xs.getD i 0 < 256 := by
  obtain ⟨a, cap, e, h1, h2, h3, h4⟩ := h
  exact h4.bytes

theorem Sl.none (w : World) : Sl w (.slice .none 0 0) [] := ⟨.none, 0, rfl, Nat.le_refl _, by simp, fun _ => rfl, .inl rfl⟩

theorem own_base {w : World} {base : Nat} {e : TypeId} {size : Nat} {v : Value} {n : Nat} {xs : List Value} (h : w.ownsRow base e size v n xs) : ∀ k, v.ownBlock = some k → base ≤ k := by
  rcases h.2 with ⟨rfl, _⟩ | ⟨g, cap, cur, rfl, hg, _⟩
  · intro k hk; cases hk
  · intro k hk; cases hk; exact hg

/-- A slice that owns bytes is one. -/
theorem sl_owned {w : World} {base n : Nat} {v : Value} {xs : List Int} (h : w.ownsRow base 5 1 v n (xs.map (Value.int .u8))) (hb : ∀ i, 0 ≤ xs.getD i 0 ∧ xs.getD i 0 < 256) : Sl w v xs := by
  have hl := h.1
  simp at hl
  subst hl
  rcases h.2 with ⟨rfl, h0⟩ | ⟨g, cap, cur, rfl, hg, hh, hc, hm, hs, ht⟩
  · obtain rfl := List.length_eq_zero_iff.1 h0
    exact Sl.none w
  · simp at ht
    refine ⟨_, cap, rfl, hc, hm, fun e => (by cases e), ?_⟩
    rcases Nat.eq_zero_or_pos xs.length with h0 | hp
    · exact .inl h0
    · refine .inr ⟨hp, g, 0, rfl, hc, hm, fun i hi => ?_, hb⟩
      have e : cur[i]? = some (.int .u8 (xs.getD i 0)) := by
        have := congrArg (·[i]?) ht
        simp only [List.getElem?_take, List.getElem?_map] at this
        rw [if_pos hi] at this
        simpa [List.getElem?_eq_getElem hi, List.getD] using this
      unfold World.cell?; rw [hh]; simpa using e

theorem ints_one (xs : List Int) : ∀ u ∈ xs.map (Value.int .u8), u.oneCell' = true := by
  intro u hu
  simp only [List.mem_map] at hu
  obtain ⟨z, _, rfl⟩ := hu
  rfl

/-- The cells of a row, as an append asks for them. -/
theorem news_row {w : World} {x : Addr} {cap : Nat} {xs : List Int} (h : Row w (some x) xs.length cap xs) :
    ∀ j u, (xs.map (Value.int .u8))[j]? = some u → w.cell? (x.add j) = some u := by
  intro j u hj
  rw [List.getElem?_map] at hj
  by_cases hlt : j < xs.length
  · rw [List.getElem?_eq_getElem hlt] at hj
    simp only [Option.map_some, Option.some.injEq] at hj
    rcases h with h | ⟨_, b, off, e, _, _, hc, _⟩
    · omega
    · cases e
      rw [Addr.add_lit, hc j hlt, ← hj]
      simp [List.getD, List.getElem?_eq_getElem hlt]
  · rw [List.getElem?_eq_none (by omega)] at hj
    simp at hj

set_option maxHeartbeats 4000000 in
theorem grow_any (n : Nat) (w : World) (hbig : n ≤ 200000000000000) :
    Calls Tryd.prog 52 #[.slice none 0 0, .int .i64 n] w fun r w' => ∃ v, r = .returned v ∧ w'.ownsRow w.heap.size 5 1 v 0 [] ∧ Below w.heap.size w w' := by
  obtain ⟨i0, hi, hz0, hz1, hz2⟩ := info_parts info5'
  rcases Nat.eq_zero_or_pos n with rfl | hp
  · go_enter Tryd.func52, Tryd.ntmps52
    go_wp2
    go_ret
    exact ⟨_, rfl, World.ownsRow_nil _ _ _ _, Below.refl _ _⟩
  · have hrz : ∀ ty, (Builtin.append_ #[27, 3] ty #[.slice none 0 0, .int .i64 (n : Int)]).run Tryd.prog w =
      .ok (.slice (some ⟨w.heap.size, 0, none⟩) n (grownCap w n 0 5)) (w.drew.alloc (.cells (Builtin.zeroCells (Value.int .u8 0).cells n ++ Builtin.zeroCells (Value.int .u8 0).cells (grownCap w n 0 5 - n)) 5)) := fun ty => by
      have h := Lib.run_append_grow_zeros (P := Tryd.prog) w 27 3 ty 5 i0 (.int .u8 0) .i64 .i64 Tryd.underlying27 Tryd.underlying3 hi hz0 none 0 0 []
        (by rw [hz1]; exact run_firstCells_none w.drew 1 0 0 0) n hp (by omega) (by omega) (by omega) (by rw [hz2]; omega) (growslice_fits_wide (by omega) (by rw [hz2]; omega))
      simpa using h
    have hGn : n ≤ grownCap w n 0 5 := grownCap_ge w _ _ _
    have hGm := grownCap_le_maxLen w n 0 5 (by unfold maxLen; omega)
    obtain ⟨G, hG⟩ : ∃ G, G = grownCap w n 0 5 := ⟨_, rfl⟩
    rw [← hG] at hrz hGn hGm
    have hG63 : G ≤ 9223372036854775807 := by unfold maxLen at hGm; omega
    have HM : Hid (G ≤ maxLen) := hGm
    clear hG hGm
    go_enter Tryd.func52, Tryd.ntmps52
    go_wp2_with (at_builtin; refine Lib.wpList_append_run _ rfl _ _ _ _ rfl _ _ rfl rfl _ _ (hrz _) ?_)
    go_ret
    refine ⟨_, rfl, ?_, ?_⟩
    · exact World.ownsRow_made (base := w.heap.size) (e := 5) (size := 1) w.drew _ G (Nat.le_refl _) HM.out (by simp [size_zeroCells]; omega)
    · exact ((Below.refl _ w).alloc (Nat.le_refl _) _).drew

/-- A slice of slices of bytes, as Concat reads it. -/
def Parts (w : World) (p : Option Addr) (ZZ : List (List Int)) : Prop :=
  ZZ.length ≤ 9223372036854775807 ∧ (ZZ = [] ∨ ∃ b off, p = some ⟨b, off, none⟩ ∧ ∀ i, i < ZZ.length → ∃ v, w.cell? ⟨b, off + i, none⟩ = some v ∧ Sl w v (ZZ.getD i []))

/-- The first j parts' bytes, as cells, and how many they are. -/
def flen (ZZ : List (List Int)) (j : Nat) : Nat := (ZZ.take j).flatten.length
def fval (ZZ : List (List Int)) (j : Nat) : List Value := (ZZ.take j).flatten.map (Value.int .u8)

theorem flat_succ (ZZ : List (List Int)) (j : Nat) (h : j < ZZ.length) : (ZZ.take (j + 1)).flatten = (ZZ.take j).flatten ++ ZZ.getD j [] := by
  rw [List.take_add_one, List.getElem?_eq_getElem h, List.flatten_append]
  simp [List.getD, List.getElem?_eq_getElem h]

theorem flen_succ (ZZ : List (List Int)) (j : Nat) (h : j < ZZ.length) : flen ZZ (j + 1) = flen ZZ j + (ZZ.getD j []).length := by
  unfold flen; rw [flat_succ ZZ j h, List.length_append]
theorem fval_succ (ZZ : List (List Int)) (j : Nat) (h : j < ZZ.length) : fval ZZ (j + 1) = fval ZZ j ++ (ZZ.getD j []).map (Value.int .u8) := by
  unfold fval; rw [flat_succ ZZ j h, List.map_append]

theorem flen_le (ZZ : List (List Int)) (j : Nat) : flen ZZ j ≤ ZZ.flatten.length := by
  have h : ZZ.flatten = (ZZ.take j).flatten ++ (ZZ.drop j).flatten := by rw [← List.flatten_append, List.take_append_drop]
  unfold flen; rw [h, List.length_append]; omega
theorem flen_all (ZZ : List (List Int)) : flen ZZ ZZ.length = ZZ.flatten.length := by unfold flen; rw [List.take_length]
theorem fval_all (ZZ : List (List Int)) : fval ZZ ZZ.length = ZZ.flatten.map (Value.int .u8) := by unfold fval; rw [List.take_length]

set_option maxHeartbeats 4000000 in
theorem concat_aux (p : Option Addr) (kc : Nat) (ZZ : List (List Int)) (w : World) (hP : Parts w p ZZ) (k T : Nat) (hk : k = ZZ.length) (hT : T = flen ZZ ZZ.length) (hbig : T ≤ 200000000000000) :
    Calls Tryd.prog 33 #[.slice p k kc] w fun r w' => ∃ v, r = .returned v ∧ w'.ownsRow w.heap.size 5 1 v T (fval ZZ k) ∧ Below w.heap.size w w' := by
  obtain ⟨i0, hi, hz0, hz1, hz2⟩ := info_parts info5'
  obtain ⟨hk63, hP⟩ := hP
  have HP : Hid (ZZ = [] ∨ ∃ b off, p = some ⟨b, off, none⟩ ∧ ∀ i, i < ZZ.length → ∃ v, w.cell? ⟨b, off + i, none⟩ = some v ∧ Sl w v (ZZ.getD i [])) := hP
  have HK : Hid (k = ZZ.length) := hk
  have HT : Hid (T = flen ZZ k) := by rw [hk]; exact hT
  have HLE : Hid (∀ j, flen ZZ j ≤ T) := fun j => by rw [hT, flen_all]; exact flen_le ZZ j
  rw [← hk] at hk63
  clear hk hT hP
  go_enter Tryd.func33, Tryd.ntmps33
  go_wp2
  go_loop [3, 11] (fun n i => ∃ j : Nat, j ≤ k ∧ i = .int .i64 j ∧ n = .int .i64 (flen ZZ j : Nat)) (fun _ i => k - (intOf i).toNat)
  case atStart => exact ⟨0, by omega, rfl, rfl⟩
  case round =>
    obtain ⟨j, hj, rfl, rfl⟩ := hrel
    by_cases hlt : j < k
    · rcases HP.out with h0 | ⟨b, off, rfl, hall⟩
      · have := HK.out; rw [h0] at this; simp at this; omega
      · obtain ⟨v, hc, a, cap, rfl, h1, h2, h3, h4⟩ := hall j (by rw [← HK.out]; exact hlt)
        have hs := flen_succ ZZ j (by rw [← HK.out]; exact hlt)
        have hle := HLE.out (j + 1)
        have HS : Hid (flen ZZ (j + 1) = flen ZZ j + (ZZ.getD j []).length) := hs
        have hsum : flen ZZ j + (ZZ.getD j []).length ≤ 200000000000000 := by omega
        clear hs hle h4 hall h1 h2 h3
        generalize hL : (ZZ.getD j []).length = L at *
        have HL : Hid ((ZZ.getD j []).length = L) := hL
        clear hL
        go_wp2
        go_round
        case rel => exact ⟨j + 1, by omega, by go_num, by rw [HS.out]; go_num⟩
        case measure => simp [intOf]; omega
    · obtain rfl : j = k := by omega
      rw [← HT.out]
      have cg := grow_any T w hbig
      clear hlt
      go_wp2_with (go_at_call 52; refine cg.mono ?_; rintro e w1 ⟨v1, rfl, own1, bel1⟩)
      clear cg
      go_loopw [6, 27] (fun v i wr => ∃ m : Nat, m ≤ j ∧ i = .int .i64 m ∧ wr.ownsRow w.heap.size 5 1 v (flen ZZ m) (fval ZZ m) ∧ Below w.heap.size w wr) (fun _ i _ => j - (intOf i).toNat)
      case atStart => exact ⟨0, by omega, rfl, own1, bel1⟩
      case round =>
        clear own1 bel1
        obtain ⟨m, hm, rfl, hown, hbel⟩ := hrel
        by_cases hlt : m < j
        · rcases HP.out with h0 | ⟨b, off, rfl, hall⟩
          · have := HK.out; rw [h0] at this; simp at this; omega
          · obtain ⟨v, hc, a, cap, rfl, h1, h2, h3, h4⟩ := hall m (by rw [← HK.out]; exact hlt)
            have hcr : wr.cell? ⟨b, off + m, none⟩ = some (.slice a (ZZ.getD m []).length cap) := (hbel.cell (p := ⟨b, off + m, none⟩) (World.block_lt_of_cell? _ _ hc)).trans hc
            have HR : Hid (Row wr a (ZZ.getD m []).length cap (ZZ.getD m [])) := h4.kept hbel
            have HS : Hid (flen ZZ (m + 1) = flen ZZ m + (ZZ.getD m []).length) := flen_succ ZZ m (by rw [← HK.out]; exact hlt)
            have HV : Hid (fval ZZ (m + 1) = fval ZZ m ++ (ZZ.getD m []).map (Value.int .u8)) := fval_succ ZZ m (by rw [← HK.out]; exact hlt)
            have hsum : flen ZZ m + (ZZ.getD m []).length ≤ 200000000000000 := by have h5 := HLE.out (m + 1); rw [HS.out] at h5; omega
            have hob := own_base hown
            have hsz := hbel.size
            have hcap : Hid (a = none → cap = 0) := h3
            clear hc h4 hall h1 h2 h3
            generalize ZZ.getD m [] = X at *
            obtain ⟨L, hL⟩ : ∃ L, L = X.length := ⟨_, rfl⟩
            have HL : Hid (L = X.length) := hL
            rw [← hL] at hcr hsum
            clear hL
            cases a with
            | none =>
              obtain rfl : cap = 0 := hcap.out rfl
              have hX : X = [] := by
                rcases HR.out with h | ⟨_, _, _, e, _⟩
                · exact List.length_eq_zero_iff.1 h
                · cases e
              have hL0 : L = 0 := by rw [HL.out, hX]; rfl
              subst hL0
              go_wp2_with (at_builtin; refine wpList_append_own_none rfl _ _ 27 rfl w.heap.size 5 i0 1 Tryd.underlying27 hi _ _ _ rfl hown rfl ?_)
              go_wp2
              go_roundw
              case rel =>
                refine ⟨m + 1, by omega, ?_, ?_, hbel⟩
                · go_num
                · rw [HS.out, HV.out, hX]; simpa using hown
              case measure => simp [intOf]; omega
            | some x =>
              go_wp2_with (at_builtin; refine wpList_append_own_wide _ rfl _ _ 27 rfl w.heap.size 5 i0 (.int .u8 0) 1 1 Tryd.underlying27 hi hz0 hz1 hz2 rfl (by decide) _ _ _ rfl hown x L cap (X.map (Value.int .u8)) rfl (by rw [List.length_map, HL.out, Nat.mul_one]) (news_row HR.out) (ints_one X) (by unfold maxLen; omega) (by omega) hsz ?_)
              intro v' w2 hown' hgrow _
              have hbel' : Below w.heap.size w w2 := hbel.grown hgrow hsz hob
              clear hown hgrow hbel hob hsz
              go_wp2
              go_roundw
              case rel =>
                refine ⟨m + 1, by omega, ?_, ?_, hbel'⟩
                · go_num
                · rw [HS.out, HV.out, ← HL.out]; exact hown'
              case measure => simp [intOf]; omega
        · obtain rfl : m = j := by omega
          go_wp2
          go_ret
          exact ⟨_, rfl, by rw [HT.out]; exact hown, hbel⟩

theorem concat_any (p : Option Addr) (kc : Nat) (ZZ : List (List Int)) (w : World) (hP : Parts w p ZZ) (hbig : ZZ.flatten.length ≤ 200000000000000) :
    Calls Tryd.prog 33 #[.slice p ZZ.length kc] w fun r w' => ∃ v, r = .returned v ∧ w'.ownsRow w.heap.size 5 1 v ZZ.flatten.length (ZZ.flatten.map (Value.int .u8)) ∧ Below w.heap.size w w' := by
  have h := concat_aux p kc ZZ w hP ZZ.length (flen ZZ ZZ.length) rfl rfl (by rw [flen_all]; exact hbig)
  rw [flen_all, fval_all] at h
  exact h

theorem bytes_flat (ZZ : List (List Int)) (h : ∀ X ∈ ZZ, ∀ i, 0 ≤ X.getD i 0 ∧ X.getD i 0 < 256) : ∀ i, 0 ≤ ZZ.flatten.getD i 0 ∧ ZZ.flatten.getD i 0 < 256 := by
  refine byteList _ ?_
  rw [List.all_eq_true]
  intro z hz
  obtain ⟨X, hX, hzX⟩ := List.mem_flatten.1 hz
  obtain ⟨i, hi, rfl⟩ := List.getElem_of_mem hzX
  have := h X hX i
  simp [List.getD, List.getElem?_eq_getElem hi] at this
  simpa using this

theorem join_any (p : Option Addr) (kc : Nat) (ZZ : List (List Int)) (w : World) (hP : Parts w p ZZ) (hbig : ZZ.flatten.length ≤ 200000000000000) :
    Calls Tryd.prog 31 #[.slice p ZZ.length kc] w fun r w' => ∃ v, r = .returned v ∧ w'.ownsRow w.heap.size 5 1 v ZZ.flatten.length (ZZ.flatten.map (Value.int .u8)) ∧ Below w.heap.size w w' := by
  have h := concat_any p kc ZZ w hP hbig
  generalize ZZ.flatten.length = T at *
  generalize ZZ.flatten.map (Value.int .u8) = V at *
  generalize ZZ.length = k at *
  go_enter Tryd.func31, Tryd.ntmps31
  go_wp2_with (go_at_call 33; refine h.mono ?_; rintro e w1 ⟨v1, rfl, own1, bel1⟩)
  go_ret
  exact ⟨_, rfl, by assumption, by assumption⟩
end Go.Proofs.YtcenchnmibdebaaDoor.Fi
namespace Go.Proofs.YtcenchnmibdebaaDoor.Fi
open Go.RowKit
set_option maxRecDepth 100000

/-- All but block g is as it was. -/
structure Off (g : Nat) (w w' : World) : Prop where
  os : w'.os = w.os
  tape : w'.tape = w.tape
  output : w'.output = w.output
  size : w'.heap.size = w.heap.size
  block : ∀ k, k ≠ g → w'.heap[k]? = w.heap[k]?

theorem Off.refl (g : Nat) (w : World) : Off g w w := ⟨rfl, rfl, rfl, rfl, fun _ _ => rfl⟩
theorem Off.trans {g : Nat} {a b c : World} (h : Off g a b) (k : Off g b c) : Off g a c :=
  ⟨k.os.trans h.os, k.tape.trans h.tape, k.output.trans h.output, k.size.trans h.size, fun i hi => (k.block i hi).trans (h.block i hi)⟩
theorem Off.setCell (g o : Nat) (w : World) (v : Value) : Off g w (w.setCell ⟨g, o, none⟩ v) :=
  ⟨rfl, rfl, rfl, by simp [World.setCell], fun k hk => Below.heap_setCell _ _ _ _ hk⟩
theorem Off.below {g B : Nat} {w w' : World} (h : Off g w w') (hB : B ≤ g) : Below B w w' :=
  ⟨h.os, h.tape, h.output, by rw [h.size]; exact Nat.le_refl _, fun k hk => h.block k (by omega)⟩
theorem Off.cell {g : Nat} {w w' : World} (h : Off g w w') {p : Addr} (hp : p.block ≠ g) : w'.cell? p = w.cell? p := World.cell?_of_block (h.block _ hp)
theorem Off.frozen {g : Nat} {w w' : World} (h : Off g w w') {p : Addr} (hp : p.block ≠ g) : w'.frozen? p = w.frozen? p := World.frozen?_of_block (h.block _ hp)
theorem Wid.off {w w' : World} {g : Nat} (h : Wid w) (hb : Off g w w') (hg : 0 < g) : Wid w' := h.below (hb.below (B := g) (Nat.le_refl _)) hg
theorem Row.off {w w' : World} {g : Nat} {a : Option Addr} {len cap : Nat} {zs : List Int} (h : Row w a len cap zs) (hb : Off g w w') (hB : ∀ b, a = some b → b.block ≠ g) : Row w' a len cap zs := by
  rcases h with h | ⟨hp, b, off, rfl, hlc, hm, hc, hz⟩
  · exact .inl h
  · exact .inr ⟨hp, b, off, rfl, hlc, hm, fun i hi => (hb.cell (p := ⟨b, off + i, none⟩) (hB ⟨b, off, none⟩ rfl)).trans (hc i hi), hz⟩

/-- A reader at block g: the bytes xs are left, in block s, its error is e. -/
def Rd (w : World) (g s : Nat) (xs : List Int) (e : Int) : Prop :=
  ∃ a cap, w.cell? ⟨g, 0, none⟩ = some (.slice a xs.length cap) ∧ w.cell? ⟨g, 1, none⟩ = some (.int .i64 e) ∧ w.frozen? ⟨g, 0, none⟩ = false ∧ w.frozen? ⟨g, 1, none⟩ = false ∧
    xs.length ≤ cap ∧ cap ≤ maxLen ∧ Row w a xs.length cap xs ∧ (a = none → cap = 0) ∧ s ≠ g ∧ ∀ x, a = some x → x.spot = none ∧ x.block = s

theorem Rd.off {w w' : World} {g s g' : Nat} {xs : List Int} {e : Int} (h : Rd w g s xs e) (hb : Off g' w w') (hg : g ≠ g') (hs : s ≠ g') : Rd w' g s xs e := by
  obtain ⟨a, cap, c0, c1, f0, f1, l1, l2, r, n, k, b⟩ := h
  exact ⟨a, cap, (hb.cell (p := ⟨g, 0, none⟩) hg).trans c0, (hb.cell (p := ⟨g, 1, none⟩) hg).trans c1, (hb.frozen (p := ⟨g, 0, none⟩) hg).trans f0, (hb.frozen (p := ⟨g, 1, none⟩) hg).trans f1, l1, l2, r.off hb (fun x hx => by rw [(b x hx).2]; exact hs), n, k, b⟩

theorem Rd.kept {w w' : World} {g s : Nat} {xs : List Int} {e : Int} (h : Rd w g s xs e) (hb : Below w.heap.size w w') : Rd w' g s xs e := by
  obtain ⟨a, cap, c0, c1, f0, f1, l1, l2, r, n, k, b⟩ := h
  have hg : g < w.heap.size := World.block_lt_of_cell? _ _ c0
  refine ⟨a, cap, (hb.cell (p := ⟨g, 0, none⟩) hg).trans c0, (hb.cell (p := ⟨g, 1, none⟩) hg).trans c1, (hb.frozen (p := ⟨g, 0, none⟩) hg).trans f0, (hb.frozen (p := ⟨g, 1, none⟩) hg).trans f1, l1, l2, ?_, n, k, b⟩
  rcases r with h | ⟨hp, b', off, rfl, hlc, hm, hc, hz⟩
  · exact .inl h
  · exact .inr ⟨hp, b', off, rfl, hlc, hm, fun i hi => (hb.cell (p := ⟨b', off + i, none⟩) (World.block_lt_of_cell? _ _ (hc i hi))).trans (hc i hi), hz⟩

/-- What numberAhead answers. -/
def naE (xs : List Int) (most : Int) : Int := if shE xs.length xs = 0 then (if shN xs.length xs ≤ most then 0 else 5) else shE xs.length xs
def naN (xs : List Int) (most : Int) : Int := if naE xs most = 0 then shN xs.length xs else 0
def naU (xs : List Int) (most : Int) : Int := if naE xs most = 0 then shU xs.length xs else 0

set_option maxHeartbeats 1000000 in
theorem na_any (a : Option Addr) (cap : Nat) (xs : List Int) (most : Int) (w : World) (hw : Wid w) (hr : Row w a xs.length cap xs) :
    Calls Tryd.prog 86 #[.slice a xs.length cap, .int .i64 most] w fun e w' => e = .returned (.tuple #[.int .i64 (naN xs most), .int .i64 (naU xs most), .int .i64 (naE xs most)]) ∧ w' = w := by
  have hs := shortest_any a xs.length cap xs w hw hr
  unfold naN naU naE
  generalize xs.length = len at *
  generalize shN len xs = n at *
  generalize shU len xs = u at *
  generalize shE len xs = g at *
  by_cases h : g = 0
  · subst h
    by_cases h2 : n ≤ most
    · simp only [if_true, if_pos h2]
      go_enter Tryd.func86, Tryd.ntmps86
      go_wp2_with (go_at_call 65; refine hs.mono ?_; rintro e w' ⟨rfl, rfl⟩)
      go_ret3
      exact ⟨rfl, rfl⟩
    · have h3 : most < n := by omega
      simp only [if_true, if_neg h2]
      rw [if_neg (by decide), if_neg (by decide)]
      go_enter Tryd.func86, Tryd.ntmps86
      go_wp2_with (go_at_call 65; refine hs.mono ?_; rintro e w' ⟨rfl, rfl⟩)
      go_ret3
      exact ⟨rfl, rfl⟩
  · have h' : (g == 0) = false := by simpa using h
    simp only [if_neg h]
    go_enter Tryd.func86, Tryd.ntmps86
    go_wp2_with (go_at_call 65; refine hs.mono ?_; rintro e w' ⟨rfl, rfl⟩)
    go_ret3
    exact ⟨rfl, rfl⟩

set_option maxHeartbeats 1000000 in
theorem err_any (g s : Nat) (xs : List Int) (e : Int) (w : World) (h : Rd w g s xs e) :
    Calls Tryd.prog 93 #[.pointer (some ⟨g, 0, none⟩)] w fun r w' => r = .returned (.int .i64 e) ∧ w' = w := by
  obtain ⟨a, cap, c0, c1, f0, f1, l1, l2, hr, _, _, ha⟩ := h
  clear ha hr
  go_enter Tryd.func93, Tryd.ntmps93
  go_wp2
  go_ret
  exact ⟨rfl, rfl⟩

set_option maxHeartbeats 1000000 in
theorem stopped_any (g s : Nat) (xs : List Int) (e : Int) (w : World) (h : Rd w g s xs e) :
    Calls Tryd.prog 85 #[.pointer (some ⟨g, 0, none⟩)] w fun r w' => r = .returned (.bool (e != 0)) ∧ w' = w := by
  have c := err_any g s xs e w h
  go_enter Tryd.func85, Tryd.ntmps85
  go_wp2_with (go_at_call 93; refine c.mono ?_; rintro e w' ⟨rfl, rfl⟩)
  go_ret
  exact ⟨rfl, rfl⟩

/-- What Done answers. -/
def dnE (xs : List Int) (e : Int) : Int := if e = 0 then (if 0 < xs.length then 4 else 0) else e

end Go.Proofs.YtcenchnmibdebaaDoor.Fi
namespace Go.Proofs.YtcenchnmibdebaaDoor.Fi
open Go.RowKit
set_option maxRecDepth 100000

theorem bytes_drop (xs : List Int) (m : Nat) (hx : ∀ i, 0 ≤ xs.getD i 0 ∧ xs.getD i 0 < 256) : ∀ i, 0 ≤ (xs.drop m).getD i 0 ∧ (xs.drop m).getD i 0 < 256 := by
  intro i
  have := hx (m + i)
  simpa [List.getD, List.getElem?_drop] using this

theorem Row.drop {w : World} {b off len cap : Nat} {xs : List Int} (h : Row w (some ⟨b, off, none⟩) len cap xs) (n : Nat) (hn : n ≤ len) : Row w (some ⟨b, off + n, none⟩) (len - n) (cap - n) (xs.drop n) := by
  rcases h with h | ⟨hp, b', off', e, hlc, hm, hc, hz⟩
  · exact .inl (by omega)
  · cases e
    rcases Nat.eq_zero_or_pos (len - n) with h0 | h0
    · exact .inl h0
    · refine .inr ⟨h0, b, off + n, rfl, by omega, by omega, fun i hi => ?_, bytes_drop xs n hz⟩
      rw [show off + n + i = off + (n + i) by omega, hc (n + i) (by omega)]
      simp [List.getD, List.getElem?_drop]

set_option maxHeartbeats 1000000 in
theorem take_any (g s n : Nat) (xs : List Int) (e : Int) (w : World) (h : Rd w g s xs e) (hn : n ≤ xs.length) :
    Calls Tryd.prog 87 #[.pointer (some ⟨g, 0, none⟩), .int .i64 n] w fun r w' => r = .returned (.string (strB (xs.take n))) ∧ Rd w' g s (xs.drop n) e ∧ Off g w w' := by
  obtain ⟨a, cap, c0, c1, f0, f1, l1, l2, hr, ha0, hsg, ha⟩ := h
  have cv := conv_any a n cap xs w hn (hr.cut n hn)
  have hl : (xs.drop n).length = xs.length - n := List.length_drop ..
  have key : ∀ a', (a' = none → cap - n = 0) → (∀ x, a' = some x → x.spot = none ∧ x.block = s) → Row w a' (xs.length - n) (cap - n) (xs.drop n) → Rd (w.setCell ⟨g, 0, none⟩ (.slice a' (xs.length - n) (cap - n))) g s (xs.drop n) e := by
    intro a' h1 h2 h3
    refine ⟨a', cap - n, ?_, ?_, ?_, ?_, by omega, by omega, ?_, h1, hsg, h2⟩
    · rw [World.cell?_setCell_same _ _ _ c0, hl]
    · rw [World.cell?_setCell_other _ _ _ _ (by intro e; cases e), c1]
    · simpa using f0
    · simpa using f1
    · rw [hl]; exact h3.off (Off.setCell g 0 w _) (fun b hb => by rw [(h2 b hb).2]; exact hsg)
  unfold maxLen at l2
  have K : Hid (∀ a', (a' = none → cap - n = 0) → (∀ x, a' = some x → x.spot = none ∧ x.block = s) → Row w a' (xs.length - n) (cap - n) (xs.drop n) → Rd (w.setCell ⟨g, 0, none⟩ (.slice a' (xs.length - n) (cap - n))) g s (xs.drop n) e) := key
  clear key hl
  cases a with
  | none =>
    obtain rfl : cap = 0 := ha0 rfl
    obtain rfl : n = 0 := by omega
    obtain rfl : xs = [] := List.length_eq_zero_iff.1 (by omega)
    go_enter Tryd.func87, Tryd.ntmps87
    go_wp2
    go_ret
    exact ⟨rfl, by simpa using K.out none (by simp) (by simp) (.inl (by simp)), Off.setCell g 0 w _⟩
  | some x =>
    obtain ⟨b, off, spot⟩ := x
    obtain ⟨hs, hb⟩ := ha _ rfl
    simp only at hs hb
    subst hs
    subst hb
    have HR := hr.drop n hn
    generalize xs.length = len at *
    by_cases hc : cap = n
    · subst hc
      obtain rfl : cap = len := by omega
      go_enter Tryd.func87, Tryd.ntmps87
      go_wp2
      go_ret
      refine ⟨rfl, ?_, Off.setCell g 0 w _⟩
      have := K.out (some ⟨b, off, none⟩) (fun hx => by cases hx) (fun x hx => by cases hx; exact ⟨rfl, rfl⟩) (.inl (by omega))
      simpa using this
    · go_enter Tryd.func87, Tryd.ntmps87
      go_wp2
      go_ret
      exact ⟨rfl, K.out _ (fun hx => by cases hx) (fun x hx => by cases hx; exact ⟨rfl, rfl⟩) HR, Off.setCell g 0 w _⟩
end Go.Proofs.YtcenchnmibdebaaDoor.Fi
namespace Go.Proofs.YtcenchnmibdebaaDoor.Fi
open Go.RowKit
set_option maxRecDepth 100000

theorem Rd.fail {w : World} {g s : Nat} {xs : List Int} {e : Int} (h : Rd w g s xs e) (e' : Int) : Rd (w.setCell ⟨g, 1, none⟩ (.int .i64 e')) g s xs e' := by
  obtain ⟨a, cap, c0, c1, f0, f1, l1, l2, r, n, k, b⟩ := h
  refine ⟨a, cap, ?_, ?_, ?_, ?_, l1, l2, r.off (Off.setCell g 1 _ _) (fun x hx => by rw [(b x hx).2]; exact k), n, k, b⟩
  · rw [World.cell?_setCell_other _ _ _ _ (by intro e; cases e), c0]
  · rw [World.cell?_setCell_same _ _ _ c1]
  · simpa using f0
  · simpa using f1

/-- How far the bytes of a number that Shortest finds go. -/
theorem sh_bd (xs : List Int) (hb : ∀ i, 0 ≤ xs.getD i 0 ∧ xs.getD i 0 < 256) : 0 ≤ shN xs.length xs ∧ shN xs.length xs < 4611686018427387904 ∧ 0 ≤ shU xs.length xs ∧ shU xs.length xs ≤ xs.length := by
  unfold shN shU
  split
  · next h =>
    obtain ⟨h1, h2⟩ := h
    unfold getE at h1
    split at h1
    · simp at h1
    · next h3 =>
      have h4 : getN xs.length xs = gval xs (2 ^ gk xs - 1) := by unfold getN; rw [if_neg h3]
      have h5 : getU xs.length xs = (2 ^ gk xs : Nat) := by unfold getU; rw [if_neg h3]
      have hk : gk xs = 0 ∨ gk xs = 1 ∨ gk xs = 2 ∨ gk xs = 3 := by have := hb 0; unfold gk; omega
      have hg := gval_bd xs hb (2 ^ gk xs - 1)
      rw [h4, h5]
      rcases hk with hk | hk | hk | hk <;> rw [hk] at hg h3 ⊢ <;> simp only [Nat.reducePow, Nat.reduceSub, Int.reducePow, Int.reduceMul] at hg h3 ⊢ <;> omega
  · simp

theorem Rd.bytes {w : World} {g s : Nat} {xs : List Int} {e : Int} (h : Rd w g s xs e) : ∀ i, 0 ≤ xs.getD i 0 ∧ xs.getD i 0 < 256 := by
  obtain ⟨a, cap, c0, c1, f0, f1, l1, l2, r, n, k, b⟩ := h
  rcases r with h | ⟨_, _, _, _, _, _, _, hz⟩
  · obtain rfl := List.length_eq_zero_iff.1 h
    intro i
    simp
  · exact hz

theorem na_bd (xs : List Int) (most : Int) (hb : ∀ i, 0 ≤ xs.getD i 0 ∧ xs.getD i 0 < 256) : 0 ≤ naN xs most ∧ naN xs most < 4611686018427387904 ∧ 0 ≤ naU xs most ∧ naU xs most ≤ xs.length := by
  have h := sh_bd xs hb
  unfold naN naU
  split <;> omega

set_option maxHeartbeats 1000000 in
theorem num_any (g s : Nat) (xs : List Int) (most : Int) (w : World) (hw : Wid w) (h : Rd w g s xs 0) :
    Calls Tryd.prog 68 #[.pointer (some ⟨g, 0, none⟩), .int .i64 most] w fun r w' => r = .returned (.int .i64 (naN xs most)) ∧ Rd w' g s (xs.drop (naU xs most).toNat) (naE xs most) ∧ Off g w w' := by
  have cs := stopped_any g s xs 0 w h
  obtain ⟨u, hu⟩ : ∃ u : Nat, naU xs most = u := ⟨(naU xs most).toNat, by have := na_bd xs most h.bytes; omega⟩
  have hul : u ≤ xs.length := by have := na_bd xs most h.bytes; omega
  have ct := take_any g s u xs 0 w h hul
  have HF : Hid (∀ e', Rd (w.setCell ⟨g, 1, none⟩ (.int .i64 e')) g s xs e') := fun e' => h.fail e'
  have HE0 : Hid (naE xs most ≠ 0 → naN xs most = 0 ∧ u = 0) := fun hne => by unfold naN; unfold naU at hu; rw [if_neg hne] at hu ⊢; omega
  obtain ⟨a, cap, c0, c1, f0, f1, l1, l2, hr, _, _, ha⟩ := h
  have cn := na_any a cap xs most w hw hr
  rw [hu] at cn ⊢
  clear ha hr hu
  simp only [Int.toNat_natCast]
  generalize naN xs most = N at *
  generalize naE xs most = E at *
  by_cases hE : E = 0
  · subst hE
    go_enter Tryd.func68, Tryd.ntmps68
    go_wp2_with (first | (go_at_call 85; refine cs.mono ?_; rintro e w' ⟨rfl, rfl⟩) | (go_at_call 86; refine cn.mono ?_; rintro e w' ⟨rfl, rfl⟩) | (go_at_call 87; refine ct.mono ?_; rintro e w' ⟨rfl, h1, h2⟩))
    go_ret
    exact ⟨rfl, by assumption, by assumption⟩
  · have hne : (E != 0) = true := by simpa using hE
    obtain ⟨rfl, rfl⟩ := HE0.out hE
    clear HE0
    go_enter Tryd.func68, Tryd.ntmps68
    go_wp2_with (first | (go_at_call 85; refine cs.mono ?_; rintro e w' ⟨rfl, rfl⟩) | (go_at_call 86; refine cn.mono ?_; rintro e w' ⟨rfl, rfl⟩))
    go_ret
    exact ⟨rfl, HF.out E, Off.setCell g 1 _ _⟩

set_option maxHeartbeats 1000000 in
theorem num_stop (g s : Nat) (xs : List Int) (e most : Int) (w : World) (h : Rd w g s xs e) (he : e ≠ 0) :
    Calls Tryd.prog 68 #[.pointer (some ⟨g, 0, none⟩), .int .i64 most] w fun r w' => r = .returned (.int .i64 0) ∧ w' = w := by
  have cs := stopped_any g s xs e w h
  have hne : (e != 0) = true := by simpa using he
  clear h
  go_enter Tryd.func68, Tryd.ntmps68
  go_wp2_with (go_at_call 85; refine cs.mono ?_; rintro e w' ⟨rfl, rfl⟩)
  go_ret
  exact ⟨rfl, rfl⟩

/-- What Raw answers and leaves. -/
def raE (xs : List Int) (n : Int) : Int := if n < 0 then 2 else if (xs.length : Int) < n then 3 else 0
def raN (xs : List Int) (n : Int) : Nat := if raE xs n = 0 then n.toNat else 0

set_option maxHeartbeats 1000000 in
theorem raw_any (g s : Nat) (xs : List Int) (n : Int) (w : World) (h : Rd w g s xs 0) :
    Calls Tryd.prog 70 #[.pointer (some ⟨g, 0, none⟩), .int .i64 n] w fun r w' => r = .returned (.string (strB (xs.take (raN xs n)))) ∧ Rd w' g s (xs.drop (raN xs n)) (raE xs n) ∧ Off g w w' := by
  have cs := stopped_any g s xs 0 w h
  have HF : Hid (∀ e', Rd (w.setCell ⟨g, 1, none⟩ (.int .i64 e')) g s xs e') := fun e' => h.fail e'
  have hts := take_any g s n.toNat xs 0 w h
  unfold raN raE
  obtain ⟨a, cap, c0, c1, f0, f1, l1, l2, hr, _, _, ha⟩ := h
  clear ha hr
  by_cases hn : n < 0
  · simp only [if_pos hn]
    rw [if_neg (by decide)]
    clear hts
    go_enter Tryd.func70, Tryd.ntmps70
    go_wp2_with (go_at_call 85; refine cs.mono ?_; rintro e w' ⟨rfl, rfl⟩)
    go_ret
    exact ⟨rfl, HF.out 2, Off.setCell g 1 _ _⟩
  · simp only [if_neg hn]
    obtain ⟨m, rfl⟩ : ∃ m : Nat, n = m := ⟨n.toNat, by omega⟩
    simp only [Int.toNat_natCast] at hts ⊢
    by_cases hl : (xs.length : Int) < m
    · simp only [if_pos hl]
      rw [if_neg (by decide)]
      clear hts
      go_enter Tryd.func70, Tryd.ntmps70
      go_wp2_with (go_at_call 85; refine cs.mono ?_; rintro e w' ⟨rfl, rfl⟩)
      go_ret
      exact ⟨rfl, HF.out 3, Off.setCell g 1 _ _⟩
    · simp only [if_neg hl, if_true]
      have ct := hts (by omega)
      have hl' : m ≤ xs.length := by omega
      clear hts hl hn
      go_enter Tryd.func70, Tryd.ntmps70
      go_wp2_with (first | (go_at_call 85; refine cs.mono ?_; rintro e w' ⟨rfl, rfl⟩) | (go_at_call 87; refine ct.mono ?_; rintro e w' ⟨rfl, h1, h2⟩))
      go_ret
      exact ⟨rfl, by assumption, by assumption⟩

set_option maxHeartbeats 1000000 in
theorem raw_stop (g s : Nat) (xs : List Int) (e n : Int) (w : World) (h : Rd w g s xs e) (he : e ≠ 0) :
    Calls Tryd.prog 70 #[.pointer (some ⟨g, 0, none⟩), .int .i64 n] w fun r w' => r = .returned (.string (strB [])) ∧ w' = w := by
  have cs := stopped_any g s xs e w h
  have hne : (e != 0) = true := by simpa using he
  clear h
  go_enter Tryd.func70, Tryd.ntmps70
  go_wp2_with (go_at_call 85; refine cs.mono ?_; rintro e w' ⟨rfl, rfl⟩)
  go_ret
  exact ⟨rfl, rfl⟩

/-- What Text answers and leaves. -/
def txE (xs : List Int) (most : Int) : Int := if naE xs most = 0 then (if naU xs most + naN xs most ≤ xs.length then 0 else 3) else naE xs most
def txS (xs : List Int) (most : Int) : List Int := if txE xs most = 0 then (xs.drop (naU xs most).toNat).take (naN xs most).toNat else []
def txR (xs : List Int) (most : Int) : List Int := if txE xs most = 0 then xs.drop ((naU xs most).toNat + (naN xs most).toNat) else xs

set_option maxHeartbeats 2000000 in
theorem text_any (g s : Nat) (xs : List Int) (most : Int) (w : World) (hw : Wid w) (h : Rd w g s xs 0) :
    Calls Tryd.prog 69 #[.pointer (some ⟨g, 0, none⟩), .int .i64 most] w fun r w' => r = .returned (.string (strB (txS xs most))) ∧ Rd w' g s (txR xs most) (txE xs most) ∧ Off g w w' := by
  have cs := stopped_any g s xs 0 w h
  have bd := na_bd xs most h.bytes
  obtain ⟨u, hu⟩ : ∃ u : Nat, naU xs most = u := ⟨(naU xs most).toNat, by omega⟩
  obtain ⟨k, hk⟩ : ∃ k : Nat, naN xs most = k := ⟨(naN xs most).toNat, by omega⟩
  have hul : u ≤ xs.length := by omega
  have hk62 : k < 4611686018427387904 := by omega
  have ct := take_any g s u xs 0 w h hul
  have HF : Hid (∀ e', Rd (w.setCell ⟨g, 1, none⟩ (.int .i64 e')) g s xs e') := fun e' => h.fail e'
  obtain ⟨a, cap, c0, c1, f0, f1, l1, l2, hr, _, _, ha⟩ := h
  have cn := na_any a cap xs most w hw hr
  have hlm : xs.length ≤ 9223372036854775807 := by unfold maxLen at l2; omega
  unfold txS txR txE
  rw [hu, hk] at cn ⊢
  clear ha hr hu hk bd
  simp only [Int.toNat_natCast]
  generalize naE xs most = E at *
  by_cases hE : E = 0
  · subst hE
    by_cases hl : u + k ≤ xs.length
    · have hl' : ((u : Int) + (k : Int) ≤ (xs.length : Int)) := by omega
      simp only [if_true, if_pos hl']
      have HK : Hid (∀ w1, Rd w1 g s (xs.drop u) 0 → Calls Tryd.prog 87 #[.pointer (some ⟨g, 0, none⟩), .int .i64 k] w1 fun r w' => r = .returned (.string (strB ((xs.drop u).take k))) ∧ Rd w' g s (xs.drop (u + k)) 0 ∧ Off g w1 w') := by
        intro w1 h1
        have := take_any g s k (xs.drop u) 0 w1 h1 (by simp; omega)
        rwa [List.drop_drop] at this
      have hgt : ¬ ((k : Int) > (xs.length : Int) - (u : Int)) := by omega
      clear hl'
      go_enter Tryd.func69, Tryd.ntmps69
      go_wp2_with (first | (go_at_call 85; refine cs.mono ?_; rintro e w' ⟨rfl, rfl⟩) | (go_at_call 86; refine cn.mono ?_; rintro e w' ⟨rfl, rfl⟩) | fail)
      refine ct.mono ?_
      rintro e w1 ⟨rfl, h1, h2⟩
      have c2 := HK.out w1 h1
      clear ct c0 c1 f0 f1
      go_wp2_with (go_at_call 87; refine c2.mono ?_; rintro e w' ⟨rfl, h3, h4⟩)
      go_ret
      exact ⟨rfl, by assumption, h2.trans (by assumption)⟩
    · have hl' : ¬ ((u : Int) + (k : Int) ≤ (xs.length : Int)) := by omega
      simp only [if_true, if_neg hl']
      rw [if_neg (by decide), if_neg (by decide)]
      have hgt : (xs.length : Int) - (u : Int) < (k : Int) := by omega
      clear hl' hl ct
      go_enter Tryd.func69, Tryd.ntmps69
      go_wp2_with (first | (go_at_call 85; refine cs.mono ?_; rintro e w' ⟨rfl, rfl⟩) | (go_at_call 86; refine cn.mono ?_; rintro e w' ⟨rfl, rfl⟩))
      go_ret
      exact ⟨rfl, HF.out 3, Off.setCell g 1 _ _⟩
  · have hne : (E != 0) = true := by simpa using hE
    have heq : (E == 0) = false := by simpa using hE
    simp only [if_neg hE]
    clear ct
    go_enter Tryd.func69, Tryd.ntmps69
    go_wp2_with (first | (go_at_call 85; refine cs.mono ?_; rintro e w' ⟨rfl, rfl⟩) | (go_at_call 86; refine cn.mono ?_; rintro e w' ⟨rfl, rfl⟩))
    go_ret
    exact ⟨rfl, HF.out E, Off.setCell g 1 _ _⟩

set_option maxHeartbeats 1000000 in
theorem text_stop (g s : Nat) (xs : List Int) (e most : Int) (w : World) (h : Rd w g s xs e) (he : e ≠ 0) :
    Calls Tryd.prog 69 #[.pointer (some ⟨g, 0, none⟩), .int .i64 most] w fun r w' => r = .returned (.string (strB [])) ∧ w' = w := by
  have cs := stopped_any g s xs e w h
  have hne : (e != 0) = true := by simpa using he
  clear h
  go_enter Tryd.func69, Tryd.ntmps69
  go_wp2_with (go_at_call 85; refine cs.mono ?_; rintro e w' ⟨rfl, rfl⟩)
  go_ret
  exact ⟨rfl, rfl⟩

theorem strB_size (l : List Int) : (strB l).size = l.length := by simp [strB, ByteArray.size]

/-- What Byte answers. -/
def byV (xs : List Int) : Int := xs.getD 0 0

set_option maxHeartbeats 1000000 in
theorem byte_any (g s : Nat) (xs : List Int) (w : World) (h : Rd w g s xs 0) :
    Calls Tryd.prog 67 #[.pointer (some ⟨g, 0, none⟩)] w fun r w' => r = .returned (.int .u8 (byV xs)) ∧ Rd w' g s (xs.drop (raN xs 1)) (raE xs 1) ∧ Off g w w' := by
  have c := raw_any g s xs 1 w h
  have hb := h.bytes 0
  clear h
  cases xs with
  | nil =>
    have e1 : raN [] 1 = 0 := by decide
    have e2 : raE [] 1 = 3 := by decide
    rw [e1, e2] at c ⊢
    have hs : strB (List.take 0 []) = ByteArray.mk #[] := rfl
    rw [hs] at c
    go_enter Tryd.func67, Tryd.ntmps67
    go_wp2_with (go_at_call 70; refine c.mono ?_; rintro e w' ⟨rfl, h1, h2⟩)
    go_ret
    exact ⟨rfl, by assumption, by assumption⟩
  | cons x l =>
    have e2 : raE (x :: l) 1 = 0 := by unfold raE; rw [if_neg (by decide), if_neg (by simp; omega)]
    have e1 : raN (x :: l) 1 = 1 := by unfold raN; rw [if_pos e2]; rfl
    rw [e1, e2] at c ⊢
    have hs : strB (List.take 1 (x :: l)) = ByteArray.mk #[UInt8.ofNat x.toNat] := by simp [strB]
    rw [hs] at c
    have hx : 0 ≤ x ∧ x < 256 := by simpa using hb
    have hv : byV (x :: l) = x := rfl
    rw [hv]
    clear hb hs e1 e2 hv
    obtain ⟨k, rfl⟩ : ∃ k : Nat, x = k := ⟨x.toNat, by omega⟩
    go_enter Tryd.func67, Tryd.ntmps67
    go_wp2_with (go_at_call 70; refine c.mono ?_; rintro e w' ⟨rfl, h1, h2⟩)
    go_ret
    refine ⟨?_, by assumption, by assumption⟩
    show Ending.returned (Value.int .u8 ((UInt8.ofNat k).toNat : Int)) = _
    have : (UInt8.ofNat k).toNat = k := by rw [UInt8.toNat_ofNat']; omega
    rw [this]

set_option maxHeartbeats 1000000 in
theorem byte_stop (g s : Nat) (xs : List Int) (e : Int) (w : World) (h : Rd w g s xs e) (he : e ≠ 0) :
    Calls Tryd.prog 67 #[.pointer (some ⟨g, 0, none⟩)] w fun r w' => r = .returned (.int .u8 0) ∧ w' = w := by
  have c := raw_stop g s xs e 1 w h he
  have hs : strB [] = ByteArray.mk #[] := rfl
  rw [hs] at c
  clear h hs
  go_enter Tryd.func67, Tryd.ntmps67
  go_wp2_with (go_at_call 70; refine c.mono ?_; rintro e w' ⟨rfl, rfl⟩)
  go_ret
  exact ⟨rfl, rfl⟩
end Go.Proofs.YtcenchnmibdebaaDoor.Fi
namespace Go.Proofs.YtcenchnmibdebaaDoor.Fi
open Go.RowKit
set_option maxRecDepth 100000

/-- A string's bytes, as numbers. -/
def sb (s : ByteArray) : List Int := s.data.toList.map fun b => (b.toNat : Int)

theorem sb_len (s : ByteArray) : (sb s).length = s.size := by unfold sb; rw [List.length_map]; rfl

theorem sb_bytes (s : ByteArray) : ∀ i, 0 ≤ (sb s).getD i 0 ∧ (sb s).getD i 0 < 256 := by
  refine byteList _ ?_
  rw [List.all_eq_true]
  intro z hz
  obtain ⟨b, _, rfl⟩ := List.mem_map.1 hz
  have := b.toNat_lt
  simp
  omega

theorem strB_sb (s : ByteArray) : strB (sb s) = s := by
  unfold strB sb
  rw [List.map_map]
  have : ((fun n : Int => UInt8.ofNat n.toNat) ∘ fun b : UInt8 => (b.toNat : Int)) = id := by funext b; simp
  rw [this]
  simp

/-- A number's bytes in its least width, none if there is none. -/
def numB (n : Int) : List Int := if lenOf n = 0 then [] else pb n (lenOf n).toNat
/-- A text's. -/
def textB (s : ByteArray) : List Int := numB s.size ++ sb s

theorem pos_lim (n : Int) (h0 : lenOf n ≠ 0) : ∃ W : Nat, lenOf n = W ∧ W ≠ 0 ∧ IsW W ∧ 0 ≤ n ∧ n < lim W ∧ numB n = pb n W := by
  obtain ⟨W, hW⟩ : ∃ W : Nat, lenOf n = W := ⟨(lenOf n).toNat, by rcases lenOf_cases n with h | h | h | h | h | h <;> omega⟩
  have h1 : W ≠ 0 := by omega
  obtain ⟨h2, h3, h4⟩ := lenOf_eq n W hW h1
  refine ⟨W, hW, h1, h2, h3, h4, ?_⟩
  unfold numB
  rw [if_neg h0, hW]
  rfl

set_option maxHeartbeats 1000000 in
theorem fnum_any (n : Int) (w : World) (hw : Wid w) :
    Calls Tryd.prog 32 #[.int .i64 n] w fun r w' => ∃ v, r = .returned v ∧ Sl w' v (numB n) ∧ Below w.heap.size w w' := by
  by_cases h0 : lenOf n = 0
  · have hn : numB n = [] := by unfold numB; rw [if_pos h0]
    rw [hn]
    have c := put_no n w hw h0
    clear hn h0
    go_enter Tryd.func32, Tryd.ntmps32
    go_wp2_with (go_at_call 51; refine c.mono ?_; rintro e w' ⟨rfl, rfl⟩)
    go_ret
    exact ⟨_, rfl, Sl.none _, Below.refl _ _⟩
  · obtain ⟨W, hW, hW0, hI, h1, h2, hn⟩ := pos_lim n h0
    have c := put_ok n W w hw hW hW0
    have hl := pb_len n W hI
    have hW8 : W ≤ 8 := by rcases hI with rfl | rfl | rfl | rfl <;> omega
    have HS : Hid (Sl (w.alloc (.cells (pbA n W) 5)) (.slice (some ⟨w.heap.size, 0, none⟩) W W) (numB n)) := by
      rw [hn]
      exact ⟨_, W, by rw [hl], by omega, by unfold maxLen; omega, fun e => (by cases e), by rw [hl]; exact row_put n W w hI h1 h2⟩
    clear hn hl h0 hW hW0
    go_enter Tryd.func32, Tryd.ntmps32
    go_wp2_with (go_at_call 51; refine c.mono ?_; rintro e w' ⟨rfl, rfl⟩)
    go_ret
    exact ⟨_, rfl, HS.out, (Below.refl _ _).alloc (Nat.le_refl _) _⟩

/-- '[]byte(s)'. -/
theorem conv_str (s : ByteArray) (w : World) (hs : s.size ≤ 9223372036854775807) : ∃ a cap w2, (convert 9 27 (.string s)).run Tryd.prog w = .ok (.slice (some a) s.size cap) w2 ∧ Sl w2 (.slice (some a) s.size cap) (sb s) ∧ Below w.heap.size w w2 := by
  refine ⟨_, _, _, run_bytes_of_string w 9 27 5 s Tryd.underlying9 Tryd.underlying27 Tryd.underlying5, ?_, ?_⟩
  · have hge := grownCap_ge w s.size 0 5
    have hmx := grownCap_le_maxLen w s.size 0 5 (by unfold maxLen; omega)
    refine ⟨_, _, by rw [sb_len], by rw [sb_len]; exact hge, hmx, fun e => (by cases e), ?_⟩
    rw [sb_len]
    rcases Nat.eq_zero_or_pos s.size with h | h
    · exact .inl h
    · refine .inr ⟨h, _, 0, rfl, hge, hmx, fun i hi => ?_, sb_bytes s⟩
      have hi' : i < s.data.size := hi
      rw [Nat.zero_add]
      have := World.cell?_alloc_mark w.drew (bytesRow s (grownCap w s.size 0 5)) 5 ((bytesRow s (grownCap w s.size 0 5)).size, (bytesRow s (grownCap w s.size 0 5)).size + 1) i
      refine this.trans ?_
      rw [bytesRow_at s _ i hi']
      congr 2
      simp [sb, List.getD, Array.getElem?_eq_getElem hi']
  · exact (Below.refl _ w).drew.alloc (Nat.le_refl _) _

set_option maxHeartbeats 2000000 in
theorem ftext_any (s : ByteArray) (w : World) (hw : Wid w) (hs : s.size ≤ 140737488355328) :
    Calls Tryd.prog 19 #[.string s] w fun r w' => ∃ v, r = .returned v ∧ Sl w' v (textB s) ∧ Below w.heap.size w w' := by
  have c1 := fnum_any s.size w hw
  have hlen : (textB s).length ≤ 200000000000000 := by
    unfold textB
    rw [List.length_append, sb_len]
    have : (numB (s.size : Int)).length ≤ 8 := by
      unfold numB
      split
      · simp
      · next h =>
        obtain ⟨W, hW, hW0, hI, h1, h2, hn⟩ := pos_lim _ h
        rw [hW]
        show (pb _ W).length ≤ 8
        rw [pb_len _ W hI]
        rcases hI with rfl | rfl | rfl | rfl <;> omega
    omega
  go_enter Tryd.func19, Tryd.ntmps19
  go_wp2_with fail
  refine c1.mono ?_
  rintro e w1 ⟨v1, rfl, sl1, bel1⟩
  obtain ⟨a2, cap2, w2, cv, sl2, bel2⟩ := conv_str s w1 (by omega)
  have hP : ∀ u1 u2, Sl w2 u1 (numB s.size) → Sl w2 u2 (sb s) → Parts (w2.alloc (.cells #[u1, u2] 27)) (some ⟨w2.heap.size, 0, none⟩) [numB s.size, sb s] := fun u1 u2 s1 s2 => by
    have hb : Below w2.heap.size w2 (w2.alloc (.cells #[u1, u2] 27)) := (Below.refl _ _).alloc (Nat.le_refl _) _
    refine ⟨by simp, .inr ⟨_, 0, rfl, fun i hi => ?_⟩⟩
    have hi2 : i = 0 ∨ i = 1 := by simp at hi; omega
    rcases hi2 with rfl | rfl
    · exact ⟨u1, by rw [World.cell?_alloc_at _ _ _ _ rfl]; rfl, s1.kept hb⟩
    · exact ⟨u2, by rw [World.cell?_alloc_at _ _ _ _ rfl]; rfl, s2.kept hb⟩
  have sl1' := sl1.kept bel2
  obtain ⟨a1, cap1, rfl, _⟩ := sl1
  have cj := join_any _ 2 _ _ (hP _ _ sl1' sl2) (by simpa [textB] using hlen)
  have hfl : [numB s.size, sb s].flatten = textB s := by simp [textB]
  rw [hfl] at cj
  have hb12 := bel1.trans (bel2.mono bel1.size)
  have hb3 : Below w.heap.size w (w2.alloc (.cells #[.slice a1 (numB s.size).length cap1, .slice (some a2) s.size cap2] 27)) := hb12.alloc hb12.size _
  have hbt : ∀ i, 0 ≤ (textB s).getD i 0 ∧ (textB s).getD i 0 < 256 := by
    rw [← hfl]
    refine bytes_flat _ ?_
    intro X hX
    simp at hX
    rcases hX with rfl | rfl
    · exact sl1'.bytes
    · exact sb_bytes s
  have HB : Hid (∀ i, 0 ≤ (textB s).getD i 0 ∧ (textB s).getD i 0 < 256) := hbt
  clear hP sl1' sl2 c1 hfl hlen hbt
  simp only [List.length_cons, List.length_nil] at cj
  generalize (numB s.size).length = L1 at *
  generalize (textB s).length = LT at *
  clear bel1 bel2 hb12
  go_wp2_with (go_at_call 31; refine cj.mono ?_; rintro e w3 ⟨v3, rfl, own3, bel3⟩)
  go_ret
  refine ⟨_, rfl, sl_owned (by assumption) HB.out, hb3.trans (Below.mono (by assumption) hb3.size)⟩

theorem isnil (w : World) : (binOp BinOp.eql 27 (.slice none 0 0) (.slice none 0 0)).run Tryd.prog w = .ok (.bool true) w := by kernel_rfl
theorem notnil (x : Addr) (n c : Nat) (w : World) : (binOp BinOp.eql 27 (.slice (some x) n c) (.slice none 0 0)).run Tryd.prog w = .ok (.bool false) w := by kernel_rfl

set_option maxHeartbeats 1000000 in
/-- What bytes.Clone answers: a slice of its own of the same bytes, nil for nil. -/
theorem clone_any (v : Value) (xs : List Int) (w : World) (h : Sl w v xs) (hbig : xs.length ≤ 200000000000000) :
    Calls Tryd.prog 84 #[v] w fun r w' => ∃ v', r = .returned v' ∧ w'.ownsRow w.heap.size 5 1 v' xs.length (xs.map (Value.int .u8)) ∧ Below w.heap.size w w' := by
  obtain ⟨i0, hi, hz0, hz1, hz2⟩ := info_parts info5'
  obtain ⟨a, cap, rfl, h1, h2, h3, h4⟩ := h
  cases a with
  | none =>
    obtain rfl := h3 rfl
    obtain rfl : xs = [] := List.length_eq_zero_iff.1 (by omega)
    clear h1 h2 h3 h4 hbig
    have hnil := isnil w
    go_enter Tryd.func84, Tryd.ntmps84
    go_wp2
    go_ret
    exact ⟨_, rfl, World.ownsRow_nil _ _ _ _, Below.refl _ _⟩
  | some x =>
    have hown0 : (w.alloc (.cells #[] 5)).ownsRow w.heap.size 5 1 (.slice (some ⟨w.heap.size, 0, none⟩) 0 0) 0 [] := World.ownsRow_made (base := w.heap.size) (e := 5) (size := 1) w #[] 0 (Nat.le_refl _) (by unfold maxLen; omega) rfl
    have hb0 : Below w.heap.size w (w.alloc (.cells #[] 5)) := (Below.refl _ _).alloc (Nat.le_refl _) _
    have hnews := news_row (h4.kept hb0)
    obtain ⟨L, hL⟩ : ∃ L, L = xs.length := ⟨_, rfl⟩
    have HL : Hid (L = xs.length) := hL
    rw [← hL] at hbig h1 ⊢
    clear h3 h4 hL h2
    have hnil := notnil x L cap w
    go_enter Tryd.func84, Tryd.ntmps84
    go_wp2_with (at_builtin; refine wpList_append_own_wide _ rfl _ _ 27 rfl w.heap.size 5 i0 (.int .u8 0) 1 1 Tryd.underlying27 hi hz0 hz1 hz2 rfl (by decide) _ 0 [] rfl hown0 x L cap (xs.map (Value.int .u8)) rfl (by rw [List.length_map, HL.out, Nat.mul_one]) hnews (ints_one xs) (by unfold maxLen; omega) (by omega) (by simp) ?_)
    intro v' w2 hown' hgrow _
    have hbel' : Below w.heap.size w w2 := hb0.grown hgrow (by simp) (own_base hown0)
    try simp only [Nat.zero_add, List.nil_append] at hown'
    clear hown0 hgrow hb0 hnews
    go_wp2
    go_ret
    exact ⟨_, rfl, hown', hbel'⟩

/-- The block that a slice lies in. -/
def blk : Option Addr → Nat
  | some x => x.block
  | none => 0

set_option maxHeartbeats 1000000 in
theorem new_any (v : Value) (xs : List Int) (w : World) (hw : Wid w) (h : Sl w v xs) (hbig : xs.length ≤ 200000000000000) :
    Calls Tryd.prog 66 #[v] w fun r w' => ∃ g s, r = .returned (.pointer (some ⟨g, 0, none⟩)) ∧ w.heap.size ≤ g ∧ g < w'.heap.size ∧ (s = 0 ∨ (w.heap.size ≤ s ∧ s < w'.heap.size)) ∧ Rd w' g s xs 0 ∧ Below w.heap.size w w' := by
  have c := clone_any v xs w h hbig
  have hb := h.bytes
  have hp := hw.pos
  clear h hbig
  go_enter Tryd.func66, Tryd.ntmps66
  go_wp2_with fail
  refine c.mono ?_
  rintro e w1 ⟨v1, rfl, own1, bel1⟩
  have sl1 := sl_owned own1 hb
  have hsz := bel1.size
  have hsp := own1.lt
  obtain ⟨a, cap, rfl, h1, h2, h3, h4⟩ := sl1
  have HR : Hid (Rd (w1.alloc (.cells #[.slice a xs.length cap, .int .i64 0] 116)) w1.heap.size (blk a) xs 0) := by
    refine ⟨a, cap, ?_, ?_, ?_, ?_, h1, h2, h4.kept ((Below.refl _ _).alloc (Nat.le_refl _) _), h3, ?_, ?_⟩
    · rw [World.cell?_alloc_at _ _ _ _ rfl]; rfl
    · rw [World.cell?_alloc_at _ _ _ _ rfl]; rfl
    · exact World.frozen?_alloc_new ..
    · exact World.frozen?_alloc_new ..
    · cases a with
      | none => show 0 ≠ _; omega
      | some x => have := (hsp x.block rfl).2; show x.block ≠ _; omega
    · intro x hx
      subst hx
      refine ⟨?_, rfl⟩
      rcases own1.2 with ⟨e, _⟩ | ⟨g, c, cur, e, _⟩
      · cases e
      · cases e; rfl
  have HS : Hid ((blk a) = 0 ∨ (w.heap.size ≤ (blk a) ∧ (blk a) < w1.heap.size)) := by
    cases a with
    | none => exact .inl rfl
    | some x => exact .inr (hsp x.block rfl)
  generalize (blk a) = s at HR HS
  clear h1 h2 h3 h4 own1 hsp c hb
  generalize xs.length = L at *
  go_wp2
  go_ret
  exact ⟨_, s, rfl, by omega, by simp, by have := HS.out; simp; omega, HR.out, bel1.alloc hsz _⟩
end Go.Proofs.YtcenchnmibdebaaDoor.Fi
namespace Go.Proofs.YtcenchnmibdebaaDoor.Fi
open Go.RowKit
set_option maxRecDepth 100000

theorem getD_append (xs ys : List Int) (i : Nat) (h : i < xs.length) : (xs ++ ys).getD i 0 = xs.getD i 0 := by
  simp [List.getD, List.getElem?_append_left h]

/-- What Get answers for a number's bytes with whatever behind. -/
theorem get_put (n : Int) (W m : Nat) (ys : List Int) (hI : IsW W) (h1 : 0 ≤ n) (h2 : n < lim W) : getN (W + m) (pb n W ++ ys) = n ∧ getU (W + m) (pb n W ++ ys) = W ∧ getE (W + m) (pb n W ++ ys) = 0 := by
  have hpos : 0 < W := by rcases hI with rfl | rfl | rfl | rfl <;> omega
  have hl := pb_len n W hI
  have hk : gk (pb n W ++ ys) = gk (pb n W) := by unfold gk; rw [getD_append _ _ _ (by omega)]
  have hw := pb_gk n W hI h1 h2
  have hg : gval (pb n W ++ ys) (W - 1) = n := by
    rw [gval_take (pb n W ++ ys) (pb n W) (W - 1) (fun i hi => getD_append _ _ _ (by omega))]
    exact pb_gval n W hI h1 h2
  unfold getN getU getE
  rw [hk, hw, if_neg (by omega), if_neg (by omega), if_neg (by omega), hg]
  exact ⟨rfl, rfl, rfl⟩

theorem numB_len (n : Int) : ((numB n).length : Int) = lenOf n := by
  unfold numB
  split
  · next h => rw [h]; rfl
  · next h =>
    obtain ⟨W, hW, hW0, hI, h1, h2, hn⟩ := pos_lim n h
    rw [hW]
    show ((pb n W).length : Int) = W
    rw [pb_len n W hI]

/-- What Shortest answers for a number that stands in its least width, with whatever behind. -/
theorem sh_num (n : Int) (ys : List Int) (h0 : lenOf n ≠ 0) :
    shN (numB n ++ ys).length (numB n ++ ys) = n ∧ shU (numB n ++ ys).length (numB n ++ ys) = lenOf n ∧ shE (numB n ++ ys).length (numB n ++ ys) = 0 := by
  obtain ⟨W, hW, hW0, hI, h1, h2, hn⟩ := pos_lim n h0
  have hl : (numB n ++ ys).length = W + ys.length := by rw [hn, List.length_append, pb_len n W hI]
  rw [hl, hn]
  obtain ⟨e1, e2, e3⟩ := get_put n W ys.length ys hI h1 h2
  unfold shN shU shE
  rw [e1, e2, e3, hW]
  simp

theorem na_num (n most : Int) (ys : List Int) (h0 : lenOf n ≠ 0) (hm : n ≤ most) : naE (numB n ++ ys) most = 0 ∧ naN (numB n ++ ys) most = n ∧ naU (numB n ++ ys) most = lenOf n := by
  obtain ⟨e1, e2, e3⟩ := sh_num n ys h0
  have hE : naE (numB n ++ ys) most = 0 := by unfold naE; rw [e3, e1, if_pos rfl, if_pos hm]
  unfold naN naU
  rw [hE, e1, e2]
  exact ⟨rfl, rfl, rfl⟩

theorem na_long (n most : Int) (ys : List Int) (h0 : lenOf n ≠ 0) (hm : most < n) : naE (numB n ++ ys) most = 5 ∧ naN (numB n ++ ys) most = 0 ∧ naU (numB n ++ ys) most = 0 := by
  obtain ⟨e1, e2, e3⟩ := sh_num n ys h0
  have hE : naE (numB n ++ ys) most = 5 := by unfold naE; rw [e3, e1, if_pos rfl, if_neg (by omega)]
  unfold naN naU
  rw [hE]
  exact ⟨rfl, rfl, rfl⟩

theorem na_cut (n most : Int) (h0 : lenOf n ≠ 0) (m : Nat) (hm : (m : Int) < lenOf n) : naE ((numB n).take m) most = 3 := by
  obtain ⟨W, hW, hW0, hI, h1, h2, hn⟩ := pos_lim n h0
  have hl : ((numB n).take m).length = m := by rw [List.length_take, hn, pb_len n W hI]; omega
  have hE : getE ((numB n).take m).length ((numB n).take m) = 3 := by
    unfold getE
    rw [hl]
    refine if_pos ?_
    rcases Nat.eq_zero_or_pos m with h | h
    · exact .inr h
    · left
      have : gk ((numB n).take m) = gk (pb n W) := by
        unfold gk
        rw [hn]
        simp [List.getD, h]
      rw [this, pb_gk n W hI h1 h2]
      omega
  have hS : shE ((numB n).take m).length ((numB n).take m) = 3 := by unfold shE; rw [hE, if_neg (by decide)]
  unfold naE
  rw [hS, if_neg (by decide)]

theorem size_len0 (s : ByteArray) (h : s.size < 4611686018427387904) : lenOf (s.size : Int) ≠ 0 := by
  have hx : (0 : Int) ≤ s.size ∧ (s.size : Int) < 4611686018427387904 := by omega
  rcases lenOf_cases (s.size : Int) with h | h | h | h | h | h <;> omega

theorem tx_text (s : ByteArray) (most : Int) (ys : List Int) (hs : s.size < 4611686018427387904) (hm : (s.size : Int) ≤ most) :
    txE (textB s ++ ys) most = 0 ∧ txS (textB s ++ ys) most = sb s ∧ txR (textB s ++ ys) most = ys := by
  have h0 := size_len0 s hs
  have hnl := numB_len (s.size : Int)
  have e : textB s ++ ys = numB (s.size : Int) ++ (sb s ++ ys) := by unfold textB; rw [List.append_assoc]
  rw [e]
  obtain ⟨e1, e2, e3⟩ := na_num (s.size : Int) most (sb s ++ ys) h0 hm
  have hE : txE (numB (s.size : Int) ++ (sb s ++ ys)) most = 0 := by
    unfold txE
    rw [e1, e2, e3, if_pos rfl, if_pos]
    rw [List.length_append, List.length_append, sb_len]
    omega
  refine ⟨hE, ?_, ?_⟩
  · unfold txS
    rw [hE, e2, e3, if_pos rfl, ← hnl]
    simp only [Int.toNat_natCast]
    rw [List.drop_left, ← sb_len s, List.take_left]
  · unfold txR
    rw [hE, e2, e3, if_pos rfl, ← hnl]
    simp only [Int.toNat_natCast]
    rw [← List.drop_drop, List.drop_left, ← sb_len s, List.drop_left]

theorem tx_long (s : ByteArray) (most : Int) (ys : List Int) (hs : s.size < 4611686018427387904) (hm : most < (s.size : Int)) :
    txE (textB s ++ ys) most = 5 ∧ txS (textB s ++ ys) most = [] ∧ txR (textB s ++ ys) most = textB s ++ ys := by
  have h0 := size_len0 s hs
  have e : textB s ++ ys = numB (s.size : Int) ++ (sb s ++ ys) := by unfold textB; rw [List.append_assoc]
  rw [e]
  obtain ⟨e1, e2, e3⟩ := na_long (s.size : Int) most (sb s ++ ys) h0 hm
  have hE : txE (numB (s.size : Int) ++ (sb s ++ ys)) most = 5 := by unfold txE; rw [e1, if_neg (by decide)]
  unfold txS txR
  rw [hE]
  exact ⟨rfl, rfl, rfl⟩

theorem tx_cut (s : ByteArray) (most : Int) (m : Nat) (hs : s.size < 4611686018427387904) (hm : (s.size : Int) ≤ most) (hl : m < (textB s).length) :
    txE ((textB s).take m) most = 3 ∧ txS ((textB s).take m) most = [] ∧ txR ((textB s).take m) most = (textB s).take m := by
  have h0 := size_len0 s hs
  have hnl := numB_len (s.size : Int)
  have hE : txE ((textB s).take m) most = 3 := by
    by_cases hw : (m : Int) < lenOf s.size
    · have e : (textB s).take m = (numB (s.size : Int)).take m := by unfold textB; rw [List.take_append_of_le_length (by omega)]
      rw [e]
      have := na_cut (s.size : Int) most h0 m hw
      unfold txE
      rw [this, if_neg (by decide)]
    · have e : (textB s).take m = numB (s.size : Int) ++ (sb s).take (m - (numB (s.size : Int)).length) := by
        unfold textB
        rw [List.take_append, List.take_of_length_le (by omega)]
      obtain ⟨e1, e2, e3⟩ := na_num (s.size : Int) most ((sb s).take (m - (numB (s.size : Int)).length)) h0 hm
      unfold textB at hl
      rw [List.length_append, sb_len] at hl
      rw [e]
      unfold txE
      rw [e1, e2, e3, if_pos rfl, if_neg]
      rw [List.length_append, List.length_take, sb_len]
      omega
  unfold txS txR
  rw [hE]
  exact ⟨rfl, rfl, rfl⟩

theorem textB_len (s : ByteArray) : (textB s).length ≤ 8 + s.size ∧ (s.size < 4611686018427387904 → 0 < (textB s).length) := by
  have hnl := numB_len (s.size : Int)
  unfold textB
  rw [List.length_append, sb_len]
  constructor
  · rcases lenOf_cases (s.size : Int) with h | h | h | h | h | h <;> omega
  · intro hs
    have := size_len0 s hs
    rcases lenOf_cases (s.size : Int) with h | h | h | h | h | h <;> omega
end Go.Proofs.YtcenchnmibdebaaDoor.Fi
namespace Go.Proofs.YtcenchnmibdebaaDoor.Fi
open Go.RowKit
set_option maxRecDepth 100000

theorem parts2 (w : World) (u1 u2 : Value) (X Y : List Int) (s1 : Sl w u1 X) (s2 : Sl w u2 Y) : Parts (w.alloc (.cells #[u1, u2] 27)) (some ⟨w.heap.size, 0, none⟩) [X, Y] := by
  have hb : Below w.heap.size w (w.alloc (.cells #[u1, u2] 27)) := (Below.refl _ _).alloc (Nat.le_refl _) _
  refine ⟨by simp, .inr ⟨_, 0, rfl, fun i hi => ?_⟩⟩
  have hi2 : i = 0 ∨ i = 1 := by simp at hi; omega
  rcases hi2 with rfl | rfl
  · exact ⟨u1, by rw [World.cell?_alloc_at _ _ _ _ rfl]; rfl, s1.kept hb⟩
  · exact ⟨u2, by rw [World.cell?_alloc_at _ _ _ _ rfl]; rfl, s2.kept hb⟩

theorem join2_any (w : World) (u1 u2 : Value) (X Y : List Int) (s1 : Sl w u1 X) (s2 : Sl w u2 Y) (hbig : X.length + Y.length ≤ 200000000000000) :
    Calls Tryd.prog 31 #[.slice (some ⟨w.heap.size, 0, none⟩) 2 2] (w.alloc (.cells #[u1, u2] 27)) fun r w' => ∃ v, r = .returned v ∧ Sl w' v (X ++ Y) ∧ Below w.heap.size w w' := by
  have hfl : [X, Y].flatten = X ++ Y := by simp
  have h := join_any _ 2 _ _ (parts2 w u1 u2 X Y s1 s2) (by rw [hfl, List.length_append]; exact hbig)
  rw [hfl] at h
  have hb : Below w.heap.size w (w.alloc (.cells #[u1, u2] 27)) := (Below.refl _ _).alloc (Nat.le_refl _) _
  refine h.mono ?_
  rintro e w' ⟨v, rfl, own, bel⟩
  refine ⟨v, rfl, sl_owned own ?_, hb.trans (bel.mono (by simp))⟩
  have := bytes_flat [X, Y] (by
    intro Z hZ
    simp at hZ
    rcases hZ with rfl | rfl
    · exact s1.bytes
    · exact s2.bytes)
  rwa [hfl] at this

/-- 'string(b)'. -/
theorem Sl.conv {w : World} {a : Option Addr} {len cap : Nat} {xs : List Int} (h : Sl w (.slice a len cap) xs) : (convert 27 9 (.slice a len cap)).run Tryd.prog w = .ok (.string (strB xs)) w := by
  obtain ⟨a', cap', e, h1, h2, h3, h4⟩ := h
  cases e
  have := conv_any a xs.length cap xs w (Nat.le_refl _) h4
  rwa [List.take_length] at this

set_option maxHeartbeats 1000000 in
theorem err_nil (w : World) : Calls Tryd.prog 93 #[.pointer none] w fun r w' => r = .returned (.int .i64 1) ∧ w' = w := by
  go_enter Tryd.func93, Tryd.ntmps93
  go_wp2
  go_ret
  exact ⟨rfl, rfl⟩
set_option maxHeartbeats 1000000 in
theorem stopped_nil (w : World) : Calls Tryd.prog 85 #[.pointer none] w fun r w' => r = .returned (.bool true) ∧ w' = w := by
  go_enter Tryd.func85, Tryd.ntmps85
  go_wp2_with (go_at_call 93; refine (err_nil _).mono ?_; rintro e w' ⟨rfl, rfl⟩)
  go_ret
  exact ⟨rfl, rfl⟩
set_option maxHeartbeats 1000000 in
theorem num_nil (n : Int) (w : World) : Calls Tryd.prog 68 #[.pointer none, .int .i64 n] w fun r w' => r = .returned (.int .i64 0) ∧ w' = w := by
  go_enter Tryd.func68, Tryd.ntmps68
  go_wp2_with (go_at_call 85; refine (stopped_nil _).mono ?_; rintro e w' ⟨rfl, rfl⟩)
  go_ret
  exact ⟨rfl, rfl⟩
set_option maxHeartbeats 1000000 in
theorem text_nil (n : Int) (w : World) : Calls Tryd.prog 69 #[.pointer none, .int .i64 n] w fun r w' => r = .returned (.string ⟨#[]⟩) ∧ w' = w := by
  go_enter Tryd.func69, Tryd.ntmps69
  go_wp2_with (go_at_call 85; refine (stopped_nil _).mono ?_; rintro e w' ⟨rfl, rfl⟩)
  go_ret
  exact ⟨rfl, rfl⟩
set_option maxHeartbeats 1000000 in
theorem raw_nil (n : Int) (w : World) : Calls Tryd.prog 70 #[.pointer none, .int .i64 n] w fun r w' => r = .returned (.string ⟨#[]⟩) ∧ w' = w := by
  go_enter Tryd.func70, Tryd.ntmps70
  go_wp2_with (go_at_call 85; refine (stopped_nil _).mono ?_; rintro e w' ⟨rfl, rfl⟩)
  go_ret
  exact ⟨rfl, rfl⟩
set_option maxHeartbeats 1000000 in
theorem byte_nil (w : World) : Calls Tryd.prog 67 #[.pointer none] w fun r w' => r = .returned (.int .u8 0) ∧ w' = w := by
  go_enter Tryd.func67, Tryd.ntmps67
  go_wp2_with (go_at_call 70; refine (raw_nil 1 _).mono ?_; rintro e w' ⟨rfl, rfl⟩)
  go_ret
  exact ⟨rfl, rfl⟩

theorem bnext {a b c : World} {B : Nat} (h : Below B a b) (k : Below b.heap.size b c) (hB : B ≤ b.heap.size) : Below B a c := h.trans (k.mono hB)
end Go.Proofs.YtcenchnmibdebaaDoor.Fi
