/-
  What Reader.take answers and leaves.
-/
import Derived.Test.YtfccjeepmhgckaaDoorFiRd
namespace Go.Proofs.YtfccjeepmhgckaaDoor.Fi
open Go.RowKit
set_option maxRecDepth 100000

theorem bytes_drop (xs : List Int) (m : Nat) (hx : ∀ i, 0 ≤ xs.getD i 0 ∧ xs.getD i 0 < 256) : ∀ i, 0 ≤ (xs.drop m).getD i 0 ∧ (xs.drop m).getD i 0 < 256 := by
  intro i
  have := hx (m + i)
  simpa [List.getD, List.getElem?_drop] using this

theorem Row.drop {w : World} {b off len cap : Nat} {xs : List Int} (h : Row w (some ⟨b, off, none⟩) len cap xs) (n : Nat) (hn : n ≤ len) : Row w (some ⟨b, off + n, none⟩) (len - n) (cap - n) (xs.drop n) := by
  rcases h with h | ⟨hp, b', off', e, hlc, hm, hc, hz⟩
  · exact .inl (by omega)
  · cases e
    rcases Nat.eq_zero_or_pos (len - n) with h0 | h0
    · exact .inl h0
    · refine .inr ⟨h0, b, off + n, rfl, by omega, by omega, fun i hi => ?_, bytes_drop xs n hz⟩
      rw [show off + n + i = off + (n + i) by omega, hc (n + i) (by omega)]
      simp [List.getD, List.getElem?_drop]

end Go.Proofs.YtfccjeepmhgckaaDoor.Fi
