/-
  States, plainly; isTime.
-/
import Derived.Test.YtbomkapnkpjjbaaRows
import Derived.WalkKit
import Derived.WalkSpells
import Derived.Handy
import Derived.Laws.IdiomStrings
import Derived.Laws.AppendOwnNone
import Derived.Deep.DeepAppendWide
import Derived.Lib.AppendZerosOnto
import Derived.Lib.Walk
import Derived.Deep.RegionHeld3
import Derived.Deep.MidRow
import Derived.Laws.StructEq
import Derived.Laws.Tables
import Derived.Laws.ResultCell
import Derived.Laws.CopyOwn
import Derived.Deep.Cut
import Derived.Laws.Rows
import Derived.Deep.WholeRow
namespace Go.Proofs.Ytbomkapnkpjjbaa
open Go.RowKit

/-- How long the way takes, plainly. -/
structure Sta where
  h : Bool
  l : Int
  m : Int
  s : Int
  v : Int
deriving DecidableEq
def i64B (n : Int) : Prop := -9223372036854775808 ≤ n ∧ n ≤ 9223372036854775807
def Sta.i (x : Sta) : Prop := i64B x.l ∧ i64B x.m ∧ i64B x.s ∧ i64B x.v
def Sta.c (x : Sta) : Array Value := #[.bool x.h, .int .i64 x.l, .int .i64 x.m, .int .i64 x.s, .int .i64 x.v]
abbrev Sta.z : Sta := ⟨false, 0, 0, 0, 0⟩
def tm (n : Int) : Bool := decide (0 ≤ n) && decide (n ≤ 1099511627776)
theorem tm_iff {n : Int} : tm n = true ↔ 0 ≤ n ∧ n ≤ 1099511627776 := by unfold tm; rw [Bool.and_eq_true, decide_eq_true_eq, decide_eq_true_eq]
theorem isTime_any (n : Int) (w : World) : Calls Try.prog 17 #[.int .i64 n] w fun e w' => e = .returned (.bool (tm n)) ∧ w' = w := by
  by_cases h0 : 0 ≤ n
  · by_cases h1 : n ≤ 1099511627776
    · have e : tm n = true := tm_iff.2 ⟨h0, h1⟩
      rw [e]
      go_enter Try.func17, Try.ntmps17
      go_wp2
      go_ret
      exact ⟨rfl, rfl⟩
    · have e : tm n = false := by unfold tm; simp [h1]
      rw [e]
      go_enter Try.func17, Try.ntmps17
      go_wp2
      go_ret
      exact ⟨rfl, rfl⟩
  · have e : tm n = false := by unfold tm; simp [h0]
    rw [e]
    go_enter Try.func17, Try.ntmps17
    go_wp2
    go_ret
    exact ⟨rfl, rfl⟩
end Go.Proofs.Ytbomkapnkpjjbaa
