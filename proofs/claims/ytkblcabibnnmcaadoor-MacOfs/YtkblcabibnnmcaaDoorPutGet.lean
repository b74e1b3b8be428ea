/-
  The bytes that a number is put as are bytes: plain facts on numbers, no program in sight but the definitions.
-/
import Derived.Test.YtkblcabibnnmcaaDoorPut
import Derived.Test.YtkblcabibnnmcaaDoorBas
namespace Go.Proofs.YtkblcabibnnmcaaDoor
open Go.RowKit

theorem Wid.size {w : World} (h : Wid w) : 3 ≤ w.heap.size := World.block_lt_of_cell? w _ h.1
theorem Wid.below {w w' : World} {B : Nat} (h : Wid w) (hb : Below B w w') (hB : 3 ≤ B) : Wid w' := by
  obtain ⟨c0, c1, c2, c3⟩ := h
  exact ⟨(hb.cell (p := ⟨2, 0, none⟩) hB).trans c0, (hb.cell (p := ⟨2, 1, none⟩) hB).trans c1, (hb.cell (p := ⟨2, 2, none⟩) hB).trans c2, (hb.cell (p := ⟨2, 3, none⟩) hB).trans c3⟩

theorem pb_len (n : Int) (W : Nat) (hW : IsW W) : (pb n W).length = W := by
  rcases hW with rfl | rfl | rfl | rfl <;> rfl

theorem pb_bytes (n : Int) (W : Nat) (hW : IsW W) (h1 : 0 ≤ n) (h2 : n < lim W) : ∀ i, 0 ≤ (pb n W).getD i 0 ∧ (pb n W).getD i 0 < 256 := by
  refine byteList _ ?_
  rcases hW with rfl | rfl | rfl | rfl
  all_goals
    simp only [lim] at h2
    simp only [pb, List.all_cons, List.all_nil, Bool.and_eq_true, decide_eq_true_eq, and_true]
    omega

theorem row_put (n : Int) (W : Nat) (w : World) (hW : IsW W) (h1 : 0 ≤ n) (h2 : n < lim W) : Row (w.alloc (.cells (pbA n W) 5)) (some ⟨w.heap.size, 0, none⟩) W W (pb n W) := by
  have := row_new w (pb n W) (pb_bytes n W hW h1 h2) (by rw [pb_len n W hW]; unfold maxLen; rcases hW with rfl | rfl | rfl | rfl <;> omega)
  rw [pb_len n W hW] at this
  exact this

end Go.Proofs.YtkblcabibnnmcaaDoor
