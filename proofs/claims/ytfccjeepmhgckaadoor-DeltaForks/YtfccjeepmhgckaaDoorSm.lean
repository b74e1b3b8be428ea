/-
  What Same answers.
-/
import Derived.Test.YtfccjeepmhgckaaDoorXw
import Derived.Deep.QuietTactic
import Derived.BigQuiet
import Derived.Deep.RegionHeld3
namespace Go.Proofs.YtfccjeepmhgckaaDoor
open Go.RowKit
set_option maxRecDepth 100000

/-- A value that is an operation. -/
def XV (w : World) (v : Value) (x : Xp) : Prop := ∃ ua un uc, v = .agg #[.bool x.c, .int .i64 x.a, .int .i64 x.n, .slice ua un uc] ∧ Sl w (.slice ua un uc) x.d
theorem XV.kept {w w' : World} {v : Value} {x : Xp} (h : XV w v x) (hb : Below w.heap.size w w') : XV w' v x := by
  obtain ⟨ua, un, uc, h1, h2⟩ := h
  exact ⟨ua, un, uc, h1, h2.kept hb⟩
theorem saX_hit (l m : List Xp) (j : Nat) (h : samX (atX l j) (atX m j) = false) : saX l m = false := by
  cases hb : saX l m with
  | false => rfl
  | true =>
    rw [(saX_iff l m).1 hb, (samX_iff _ _).2 rfl] at h
    cases h
theorem saX_ok (l m : List Xp) (hl : l.length = m.length) (h : ∀ k, k < l.length → samX (atX l k) (atX m k) = true) : saX l m = true := by
  unfold saX
  rw [Bool.and_eq_true, decide_eq_true_eq, List.all_eq_true]
  exact ⟨hl, fun i hi => h i (List.mem_range.1 hi)⟩
end Go.Proofs.YtfccjeepmhgckaaDoor
