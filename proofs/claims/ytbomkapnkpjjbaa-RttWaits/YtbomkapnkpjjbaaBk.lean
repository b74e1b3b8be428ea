/-
  How long is waited: bounds.
-/
import Derived.Test.YtbomkapnkpjjbaaFr
namespace Go.Proofs.Ytbomkapnkpjjbaa
open Go.RowKit

theorem prb_bd (x : Sta) (c : Int) : 1 ≤ prb x c ∧ prb x c ≤ 65536 := by
  unfold prb
  obtain ⟨h0, -⟩ := prb0_bd x
  have h2 : (0 : Int) < 2 ^ prbK c := Int.pow_pos (by decide)
  have h3 : 1 * 1 ≤ prb0 x * 2 ^ prbK c := Int.mul_le_mul h0 h2 (by decide) (by omega)
  omega
theorem prb_mono (x : Sta) {c d : Int} (h : c ≤ d) : prb x c ≤ prb x d := by
  unfold prb
  obtain ⟨h0, -⟩ := prb0_bd x
  have hk : prbK c ≤ prbK d := by unfold prbK; omega
  have h2 := Int.mul_le_mul_of_nonneg_left (two_le hk) (show 0 ≤ prb0 x by omega)
  omega
theorem prb_neg (x : Sta) : prb x (-5) = prb x 0 := rfl
theorem lat_bd (x : Sta) : 1 ≤ lat x := by
  unfold lat
  split <;> omega
theorem lat_no {x : Sta} (h : chk x = false) : lat x = 18 := by
  unfold lat
  rw [if_neg]
  unfold kn
  rw [h]
  simp
end Go.Proofs.Ytbomkapnkpjjbaa
