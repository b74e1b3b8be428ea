/-
  The names of the families side by side: what is one is one.
-/
import Derived.Test.YtlhmpcmlpfffoaaDoorShEq
import Derived.Test.YtlhmpcmlpfffoaaDoorSb
import Derived.Test.YtlhmpcmlpfffoaaDoorRoSums
namespace Go.Proofs.YtlhmpcmlpfffoaaDoor
open Go.RowKit
set_option maxRecDepth 100000

namespace Sh
theorem digest_byt (s : Pl.S8) : Pl.Byt (Pl.digest s) := by
  intro i
  rcases Nat.lt_or_ge i 32 with h | h
  · unfold Pl.digest
    rw [map_getI _ 32 _ h]
    have := Nat.mod_lt ((Pl.words s).getD (i / 4) 0 / 2 ^ (24 - 8 * (i % 4))) (show 0 < 256 by omega)
    omega
  · rw [List.getD, List.getElem?_eq_none (by rw [digest_len]; exact h)]; simp
theorem sha_byt (l : List Int) : Pl.Byt (Pl.sha l) := digest_byt _
end Sh
theorem u8_eq (l : List Int) : Sh.u8s l = u8c l := rfl
/-- The tables of sha. -/
def Ta (w : World) : Prop := Sh.Tab w
theorem Ta.size {w : World} (h : Ta w) : 2 ≤ w.heap.size := Sh.Tab.size h
theorem Ta.kept {w w' : World} (h : Ta w) (hb : Below w.heap.size w w') : Ta w' := Sh.Tab.below h hb h.size
end Go.Proofs.YtlhmpcmlpfffoaaDoor
