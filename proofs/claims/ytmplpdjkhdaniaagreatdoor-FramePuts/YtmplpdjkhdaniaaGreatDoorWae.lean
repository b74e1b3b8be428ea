/-
  What varint.Len and the document's Len answer for a number: the least of the widths 1, 2, 4, 8 that has room for it, or 0. Condition: the package-level table of widths holds 1, 2, 4, 8.
-/
import Derived.Test.YtmplpdjkhdaniaaGreatDoorRows
import Derived.WalkKit
import Derived.WalkSpells
import Derived.Handy
namespace Go.Proofs.YtmplpdjkhdaniaaGreatDoor.Fi
open Go.RowKit
set_option maxRecDepth 100000

/-- The table of widths, as the walks read it. -/
def Wid (w : World) : Prop :=
  w.cell? ⟨1, 0, none⟩ = some (.int .i64 1) ∧ w.cell? ⟨1, 1, none⟩ = some (.int .i64 2) ∧
  w.cell? ⟨1, 2, none⟩ = some (.int .i64 4) ∧ w.cell? ⟨1, 3, none⟩ = some (.int .i64 8)

/-- The least width of a number, 0 if none has room. -/
def lenOf (n : Int) : Int :=
  if n < 0 then 0 else if n < 64 then 1 else if n < 16384 then 2 else if n < 1073741824 then 4 else if n < 4611686018427387904 then 8 else 0

theorem lenOf_cases (n : Int) :
    (n < 0 ∧ lenOf n = 0) ∨ (0 ≤ n ∧ n < 64 ∧ lenOf n = 1) ∨ (64 ≤ n ∧ n < 16384 ∧ lenOf n = 2) ∨ (16384 ≤ n ∧ n < 1073741824 ∧ lenOf n = 4) ∨
    (1073741824 ≤ n ∧ n < 4611686018427387904 ∧ lenOf n = 8) ∨ (4611686018427387904 ≤ n ∧ lenOf n = 0) := by
  unfold lenOf
  repeat' split
  all_goals omega

/-- The table as a value, and what stands at each place of it. -/
abbrev widV : Value := .agg #[.int .i64 1, .int .i64 2, .int .i64 4, .int .i64 8]
theorem wid0 : ∀ w : World, (Instr.index 145 widV (.int .i64 0)).run Tryz.prog w = .ok (.int .i64 1) w := fun _ => by kernel_rfl
theorem wid1 : ∀ w : World, (Instr.index 145 widV (.int .i64 1)).run Tryz.prog w = .ok (.int .i64 2) w := fun _ => by kernel_rfl
theorem wid2 : ∀ w : World, (Instr.index 145 widV (.int .i64 2)).run Tryz.prog w = .ok (.int .i64 4) w := fun _ => by kernel_rfl
theorem wid3 : ∀ w : World, (Instr.index 145 widV (.int .i64 3)).run Tryz.prog w = .ok (.int .i64 8) w := fun _ => by kernel_rfl

set_option maxHeartbeats 1000000 in
theorem len_any (n : Int) (w : World) (hw : Wid w) :
    Calls Tryz.prog 85 #[.int .i64 n] w fun e w' => e = .returned (.int .i64 (lenOf n)) ∧ w' = w := by
  obtain ⟨c0, c1, c2, c3⟩ := hw
  rcases lenOf_cases n with ⟨h1, h⟩ | ⟨h1, h2, h⟩ | ⟨h1, h2, h⟩ | ⟨h1, h2, h⟩ | ⟨h1, h2, h⟩ | ⟨h1, h⟩
  all_goals
    rw [h]
    clear h
    have x0 := wid0
    have x1 := wid1
    have x2 := wid2
    have x3 := wid3
    go_enter Tryz.func85, Tryz.ntmps85
    go_wp2
    go_rounds 5
    go_ret
    exact ⟨rfl, rfl⟩

set_option maxHeartbeats 1000000 in
theorem rlen_any (n : Int) (w : World) :
    Calls Tryz.prog 60 #[.int .i64 n] w fun e w' => e = .returned (.int .i64 (lenOf n)) ∧ w' = w := by
  rcases lenOf_cases n with ⟨h1, h⟩ | ⟨h1, h2, h⟩ | ⟨h1, h2, h⟩ | ⟨h1, h2, h⟩ | ⟨h1, h2, h⟩ | ⟨h1, h⟩
  all_goals
    rw [h]
    clear h
    go_enter Tryz.func60, Tryz.ntmps60
    go_wp2
    go_rounds 5
    go_ret
    exact ⟨rfl, rfl⟩
end Go.Proofs.YtmplpdjkhdaniaaGreatDoor.Fi
