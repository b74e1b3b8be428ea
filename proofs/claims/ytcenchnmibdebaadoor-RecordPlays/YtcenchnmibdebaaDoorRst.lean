/-
  What the document's Step answers, with rows of the call's own.
-/
import Derived.Test.YtcenchnmibdebaaDoorRse
import Derived.Test.YtcenchnmibdebaaDoorRsm
namespace Go.Proofs.YtcenchnmibdebaaDoor
open Go.RowKit
set_option maxRecDepth 100000

theorem rstep_any (B : Nat) (v : Value) (s : Ste) (r : Rc) (w : World) (h : RPq w B v s.l) (hB : B ≤ w.heap.size) (hs : Ris s) (hr : r.ok) (hi : r.x.i ≤ 2199023255552) :
    Calls Tryd.prog 11 #[.agg #[v, .int .i64 s.n], r.val] w fun e w' => ∃ v', e = .returned (.tuple #[SVal v' ((step s r).getD s), .bool (step s r).isSome]) ∧ RPq w' B v' ((step s r).getD s).l ∧ Below w.heap.size w w' := by
  have key : Calls Tryd.prog 11 #[.agg #[v, .int .i64 s.n], r.val] w fun e w' => ∃ v', e = .returned (.tuple #[SVal v' ((step s r).getD s), .bool (step s r).isSome]) ∧ PS w' v' ((step s r).getD s).l ∧ Below w.heap.size w w' ∧ ((v' = v ∧ ((step s r).getD s).l = s.l) ∨ RPq w' w.heap.size v' ((step s r).getD s).l) := by
    by_cases h0 : r.k = 0
    · exact rstep_begin v s r w h.is hs hr (by omega) h0
    by_cases h4 : r.k = 4
    · exact rstep_skip v s r w h.is hs hr (by omega) h4
    by_cases hp : plc s.l r.x.i < s.l.length
    · by_cases h1 : r.k = 1
      · exact rstep_mark v s r w h.is hs hr (by omega) h1 hp
      by_cases h2 : r.k = 2 ∨ r.k = 3
      · exact rstep_end v s r w h.is hs hr (by omega) h2 hp
      · exact rstep_none v s r w h.is hs hr h0 h4 (.inr (by have := hr.1; omega))
    · exact rstep_none v s r w h.is hs hr h0 h4 (.inl hp)
  refine key.mono ?_
  rintro e w' ⟨v', rfl, -, hb, q⟩
  refine ⟨v', rfl, ?_, hb⟩
  rcases q with ⟨rfl, e⟩ | q
  · rw [e]
    exact h.below hb
  · exact q.mono hB
theorem ris_getD {s : Ste} {r : Rc} (h : Ris s) (hr : r.ok) (hi : r.x.i ≤ 2199023255552) : Ris ((step s r).getD s) := by
  cases hst : step s r with
  | none => exact h
  | some t => exact ris_step h hr hi hst
end Go.Proofs.YtcenchnmibdebaaDoor
